/-
  The check of the sizes in the statements of layer 5.
-/
import Derived.Test.YtbcoblpnihdhgaaDoorIvOpen
import Derived.Test.YtbcoblpnihdhgaaDoorIvL
import Derived.Deep.RegionHeld3
import Derived.Deep.DeepCutAuto
set_option linter.unusedVariables false
set_option maxRecDepth 100000
namespace Go.Proofs.YtbcoblpnihdhgaaDoor
open Go.RowKit
open Rt
/-- numbers that lie one after the other -/
def RatsIn (w : World) (b : Nat) (l : List Raw) : Prop := ∀ j (hj : j < l.length), w.cell? ⟨b, j * 3 + 1, none⟩ = some (.string l[j].num) ∧ w.cell? ⟨b, j * 3 + 2, none⟩ = some (.string l[j].den)
def fewS (l : List Raw) : Bool := l.all fun r => decide (r.num.size ≤ 60) && decide (r.den.size ≤ 60)
theorem fewS_iff {l : List Raw} : fewS l = true ↔ ∀ r ∈ l, Sz r := by
  unfold fewS; rw [List.all_eq_true]
  constructor
  · intro h r hr; have := h r hr; simpa [Bool.and_eq_true] using this
  · intro h r hr; have := h r hr; simpa [Bool.and_eq_true] using this
set_option maxHeartbeats 1000000 in
theorem refrats_any (b cap : Nat) (l : List Raw) (w : World) (h0 : 0 < l.length) (hl : l.length ≤ 1000) (hsz : ∀ r ∈ l, BigR r) (hc : RatsIn w b l) :
    Calls Tryd.prog 20 #[.int .i64 60, .slice (some ⟨b, 0, none⟩) l.length cap] w fun e w' => e = .returned (.bool (fewS l)) ∧ w = w' := by
  have HC := Lib.hid hc
  have HS := Lib.hid hsz
  clear hc hsz
  go_enter Tryd.func20, Tryd.ntmps20
  go_wp2_with fail
  go_loop [5] (fun i => ∃ k : Nat, k ≤ l.length ∧ i = .int .i64 k ∧ Hid (∀ j (hj : j < l.length), j < k → l[j].num.size ≤ 60 ∧ l[j].den.size ≤ 60)) (fun i => l.length - (intOf i).toNat)
  case atStart => exact ⟨0, by omega, rfl, (show _ from fun j _ h => absurd h (by omega))⟩
  case round =>
    obtain ⟨k, hk, rfl, hx⟩ := hrel
    by_cases hlt : k < l.length
    · obtain ⟨hc1, hc2⟩ := HC.out k hlt
      have hs := HS.out _ (List.getElem_mem hlt)
      unfold BigR maxLen at hs
      obtain ⟨hs1, hs2⟩ := hs
      by_cases hm : l[k].num.size ≤ 60
      · have t1 : decide (60 < l[k].num.size) = false := decide_eq_false (by omega)
        by_cases hm2 : l[k].den.size ≤ 60
        · have t2 : decide (60 < l[k].den.size) = false := decide_eq_false (by omega)
          go_wp2_with fail
          go_round
          case rel =>
            refine ⟨k + 1, by omega, by go_num, (show _ from fun j hj h => ?_)⟩
            by_cases e : j = k
            · subst e; exact ⟨hm, hm2⟩
            · exact hx.out j hj (by omega)
          case measure => simp [intOf]; omega
        · have t2 : decide (60 < l[k].den.size) = true := decide_eq_true (by omega)
          have hB : fewS l = false := by
            unfold fewS
            rw [List.all_eq_false]
            exact ⟨l[k], List.getElem_mem hlt, by simp [hm2]⟩
          have HB := Lib.hid hB
          clear hB
          go_wp2_with fail
          go_ret
          exact ⟨by rw [HB.out]; rfl, rfl⟩
      · have t1 : decide (60 < l[k].num.size) = true := decide_eq_true (by omega)
        have hB : fewS l = false := by
          unfold fewS
          rw [List.all_eq_false]
          exact ⟨l[k], List.getElem_mem hlt, by simp [hm]⟩
        have HB := Lib.hid hB
        clear hB
        go_wp2_with fail
        go_ret
        exact ⟨by rw [HB.out]; rfl, rfl⟩
    · have hB : fewS l = true := by
        unfold fewS
        rw [List.all_eq_true]
        intro s hs
        obtain ⟨j, hj, rfl⟩ := List.getElem_of_mem hs
        have := hx.out j hj (by omega)
        simp [this.1, this.2]
      have HB := Lib.hid hB
      clear hB
      go_wp2_with fail
      go_ret
      exact ⟨by rw [HB.out]; rfl, rfl⟩
theorem refrats_nil (w : World) : Calls Tryd.prog 20 #[.int .i64 60, .slice none 0 0] w fun e w' => e = .returned (.bool (fewS [])) ∧ w = w' := by
  go_enter Tryd.func20, Tryd.ntmps20
  go_wp2_with fail
  go_loop [5] (fun i => i = .int .i64 0) (fun _ => 0)
  case atStart => rfl
  case round =>
    subst hrel
    go_wp2_with fail
    go_ret
    exact ⟨rfl, rfl⟩
theorem cell_lt' {w : World} {a : Addr} {x : Value} (h : w.cell? a = some x) : a.block < w.heap.size := by
  rcases Nat.lt_or_ge a.block w.heap.size with h' | h'
  · exact h'
  · simp [World.cell?, Array.getElem?_eq_none h'] at h
theorem refrats_two (a b : Raw) (w : World) (ha : BigR a) (hb : BigR b) :
    Calls Tryd.prog 20 #[.int .i64 60, .slice (some ⟨w.heap.size, 0, none⟩) 2 2] (w.alloc (Obj.cells #[.bool a.neg, .string a.num, .string a.den, .bool b.neg, .string b.num, .string b.den] 24)) fun e w' => e = .returned (.bool (fewS [a, b])) ∧ Below w.heap.size w w' := by
  refine (refrats_any w.heap.size 2 [a, b] _ (by simp) (by simp) (by intro r hr; simp only [List.mem_cons, List.not_mem_nil, or_false] at hr; rcases hr with rfl | rfl <;> assumption) ?_).mono ?_
  · intro j hj
    match j, hj with
    | 0, _ => simp
    | 1, _ => simp
  · rintro e w' ⟨rfl, rfl⟩
    exact ⟨rfl, (Below.refl _ _).alloc (Nat.le_refl _) _⟩
theorem RatsIn.bel {w w' : World} {b : Nat} {l : List Raw} (h : RatsIn w b l) (hb : Below w.heap.size w w') : RatsIn w' b l := fun j hj => by
  obtain ⟨h1, h2⟩ := h j hj
  exact ⟨(hb.cell (p := ⟨b, j * 3 + 1, none⟩) (cell_lt' h1)).trans h1, (hb.cell (p := ⟨b, j * 3 + 2, none⟩) (cell_lt' h2)).trans h2⟩
theorem refrats_twoD (a b : Raw) (w : World) (ha : BigR a) (hb : BigR b) :
    Calls Tryd.prog 20 #[.int .i64 60, .slice (some ⟨w.heap.size, 0, none⟩) 2 2] (w.alloc (Obj.cells #[.bool a.neg, .string a.num, .string a.den, .bool b.neg, .string b.num, .string b.den] 24)).drew fun e w' => e = .returned (.bool (fewS [a, b])) ∧ Below w.heap.size w w' := by
  have hr : RatsIn (w.alloc (Obj.cells #[.bool a.neg, .string a.num, .string a.den, .bool b.neg, .string b.num, .string b.den] 24)) w.heap.size [a, b] := by
    intro j hj
    match j, hj with
    | 0, _ => simp
    | 1, _ => simp
  refine (refrats_any w.heap.size 2 [a, b] _ (by simp) (by simp) (by intro r hr; simp only [List.mem_cons, List.not_mem_nil, or_false] at hr; rcases hr with rfl | rfl <;> assumption) (hr.bel ((Below.refl _ _).drew))).mono ?_
  rintro e w' ⟨rfl, rfl⟩
  exact ⟨rfl, ((Below.refl _ _).alloc (Nat.le_refl _) _).drew⟩
theorem next6 {W w' w'' : World} {b o : Nat} {x0 x1 x2 x3 x4 x5 : Value} (hb : Below w'.heap.size w' w'') (h : Below W.heap.size W w' ∧ w'.cell? ⟨b, o, none⟩ = some x0 ∧ w'.cell? ⟨b, o + 1, none⟩ = some x1 ∧ w'.cell? ⟨b, o + 2, none⟩ = some x2 ∧ w'.cell? ⟨b, o + 3, none⟩ = some x3 ∧ w'.cell? ⟨b, o + 4, none⟩ = some x4 ∧ w'.cell? ⟨b, o + 5, none⟩ = some x5) :
    Below W.heap.size W w'' ∧ w''.cell? ⟨b, o, none⟩ = some x0 ∧ w''.cell? ⟨b, o + 1, none⟩ = some x1 ∧ w''.cell? ⟨b, o + 2, none⟩ = some x2 ∧ w''.cell? ⟨b, o + 3, none⟩ = some x3 ∧ w''.cell? ⟨b, o + 4, none⟩ = some x4 ∧ w''.cell? ⟨b, o + 5, none⟩ = some x5 := by
  obtain ⟨h, h0, h1, h2, h3, h4, h5⟩ := h
  have k : ∀ {a : Addr} {x : Value}, w'.cell? a = some x → w''.cell? a = some x := fun {a x} hc => (hb.cell (p := a) (cell_lt' hc)).trans hc
  exact ⟨h.trans (hb.mono h.size), k h0, k h1, k h2, k h3, k h4, k h5⟩
def fewI (l : List Iv) : Bool := decide (l.length ≤ 12) && l.all fun i => fewS [i.low, i.high]
theorem fewI_iff {l : List Iv} : fewI l = true ↔ l.length ≤ 12 ∧ ∀ i ∈ l, SzI i := by
  unfold fewI
  rw [Bool.and_eq_true, decide_eq_true_eq, List.all_eq_true]
  constructor
  · rintro ⟨h, h'⟩
    exact ⟨h, fun i hi => by have := fewS_iff.1 (h' i hi); exact ⟨this i.low (by simp), this i.high (by simp)⟩⟩
  · rintro ⟨h, h'⟩
    refine ⟨h, fun i hi => fewS_iff.2 (fun r hr => ?_)⟩
    have := h' i hi
    simp only [List.mem_cons, List.not_mem_nil, or_false] at hr
    rcases hr with rfl | rfl
    · exact this.1
    · exact this.2
theorem ivsCell {w : World} {b off : Nat} {l : List Iv} (h : IvsIn w b off l) (j : Nat) (hj : j < l.length) :
    w.cell? ⟨b, off + j * 6, none⟩ = some (.bool l[j].low.neg) ∧ w.cell? ⟨b, off + j * 6 + 1, none⟩ = some (.string l[j].low.num) ∧ w.cell? ⟨b, off + j * 6 + 2, none⟩ = some (.string l[j].low.den) ∧
    w.cell? ⟨b, off + j * 6 + 3, none⟩ = some (.bool l[j].high.neg) ∧ w.cell? ⟨b, off + j * 6 + 4, none⟩ = some (.string l[j].high.num) ∧ w.cell? ⟨b, off + j * 6 + 5, none⟩ = some (.string l[j].high.den) :=
  ⟨h j hj 0 (by omega), h j hj 1 (by omega), h j hj 2 (by omega), h j hj 3 (by omega), h j hj 4 (by omega), h j hj 5 (by omega)⟩
set_option maxHeartbeats 4000000 in
theorem refivs_some (b off cap : Nat) (l : List Iv) (w : World) (h0 : 0 < l.length) (hl : l.length ≤ cap) (hcap : cap ≤ maxLen) (hsz : ∀ i ∈ l, BigI i) (hc : IvsIn w b off l) :
    Calls Tryd.prog 19 #[.slice (some ⟨b, off, none⟩) l.length cap] w (GivesB (fewI l) w) := by
  have HC := Lib.hid hc
  have HS := Lib.hid hsz
  clear hc hsz
  unfold maxLen at hcap
  go_enter Tryd.func19, Tryd.ntmps19
  go_wp2_with fail
  go_loopw [3] (fun i wr => ∃ k : Nat, k ≤ l.length ∧ k ≤ 12 ∧ i = .int .i64 k ∧ Hid (Below w.heap.size w wr) ∧ Hid (∀ j (hj : j < l.length), j < k → SzI l[j])) (fun i _ => l.length - (intOf i).toNat)
  case atStart => exact ⟨0, by omega, by omega, rfl, Lib.hid (Below.refl _ _), Lib.hid (fun j _ h => absurd h (by omega))⟩
  case round =>
    obtain ⟨k, hk, hk12, rfl, hB, hx⟩ := hrel
    by_cases hlt : k < l.length
    · by_cases h12 : k < 12
      · obtain ⟨c0, c1, c2, c3, c4, c5⟩ := ivsCell (HC.out.bel hB.out) k hlt
        have hbg := HS.out _ (List.getElem_mem hlt)
        have HBG := Lib.hid hbg
        have HCC := Lib.hid (And.intro c0 (And.intro c1 (And.intro c2 (And.intro c3 (And.intro c4 c5)))))
        clear hbg c0 c1 c2 c3 c4 c5
        have HDR : Hid (Below wr.heap.size wr wr.drew) := Lib.hid ((Below.refl _ _).drew)
        go_upto_region 4 with fail
        go_cut [26] (fun s26 wx => s26 = .bool (!fewS [l[k].low, l[k].high]) ∧ Hid (Below wr.heap.size wr wx))
        case first =>
          go_region_held3 (fun w' => Below wr.heap.size wr w' ∧ w'.cell? ⟨b, off + k * 6, none⟩ = some (.bool l[k].low.neg) ∧ w'.cell? ⟨b, off + k * 6 + 1, none⟩ = some (.string l[k].low.num) ∧ w'.cell? ⟨b, off + k * 6 + 2, none⟩ = some (.string l[k].low.den) ∧ w'.cell? ⟨b, off + k * 6 + 3, none⟩ = some (.bool l[k].high.neg) ∧ w'.cell? ⟨b, off + k * 6 + 4, none⟩ = some (.string l[k].high.num) ∧ w'.cell? ⟨b, off + k * 6 + 5, none⟩ = some (.string l[k].high.den)) (first | (with_reducible assumption) | exact next6 hb1 ⟨Below.refl _ _, HCC.out.1, HCC.out.2.1, HCC.out.2.2.1, HCC.out.2.2.2.1, HCC.out.2.2.2.2.1, HCC.out.2.2.2.2.2⟩ | exact next6 HDR.out ⟨Below.refl _ _, HCC.out.1, HCC.out.2.1, HCC.out.2.2.1, HCC.out.2.2.2.1, HCC.out.2.2.2.2.1, HCC.out.2.2.2.2.2⟩ | exact next6 (by assumption) (by assumption) | exact next6 ((Below.refl _ _).alloc (Nat.le_refl _) _) (by assumption)) (first | (go_at_call 20; ((with_reducible refine (refrats_twoD _ _ _ HBG.out.1 HBG.out.2).mono ?_); rintro e y1 ⟨rfl, hb1⟩)) | fail "no arm")
          all_goals (go_wp2_with fail; go_meet; exact ⟨rfl, Lib.hid (by assumption)⟩)
        case rest =>
          obtain ⟨rfl, hcutB⟩ := hcut
          have HBN := Lib.hid (hB.out.trans (hcutB.out.mono hB.out.size))
          clear hcutB
          by_cases hf : fewS [l[k].low, l[k].high] = true
          · have HF := Lib.hid hf
            rw [hf]
            clear hf
            go_wp2_with fail
            go_roundw
            case rel =>
              refine ⟨k + 1, by omega, by omega, by go_num, HBN, Lib.hid (fun j hj h => ?_)⟩
              by_cases e : j = k
              · subst e
                have := fewS_iff.1 HF.out
                exact ⟨this _ (by simp), this _ (by simp)⟩
              · exact hx.out j hj (by omega)
            case measure => simp [intOf]; omega
          · have hf := Bool.eq_false_iff.2 hf
            have HR : Hid (fewI l = false) := Lib.hid (by
              rw [Bool.eq_false_iff]
              intro h
              have h' := (fewI_iff.1 h).2 _ (List.getElem_mem hlt)
              rw [Bool.eq_false_iff] at hf
              refine hf (fewS_iff.2 (fun r hr => ?_))
              simp only [List.mem_cons, List.not_mem_nil, or_false] at hr
              rcases hr with rfl | rfl
              · exact h'.1
              · exact h'.2)
            rw [hf]
            clear hf
            go_wp2_with fail
            go_ret
            exact ⟨by rw [HR.out]; rfl, HBN.out⟩
      · have HR : Hid (fewI l = false) := Lib.hid (by
          rw [Bool.eq_false_iff]
          intro h
          have := (fewI_iff.1 h).1
          omega)
        have hn : decide ((l.length : Int) ≤ 12) = false := decide_eq_false (by omega)
        go_wp2_with fail
        go_ret
        exact ⟨by rw [HR.out]; rfl, hB.out⟩
    · have HR : Hid (fewI l = decide (l.length ≤ 12)) := Lib.hid (by
        unfold fewI
        rw [show (l.all fun i => fewS [i.low, i.high]) = true from ?_, Bool.and_true]
        rw [List.all_eq_true]
        intro i hi
        obtain ⟨j, hj, rfl⟩ := List.getElem_of_mem hi
        have := hx.out j hj (by omega)
        refine fewS_iff.2 (fun r hr => ?_)
        simp only [List.mem_cons, List.not_mem_nil, or_false] at hr
        rcases hr with rfl | rfl
        · exact this.1
        · exact this.2)
      go_wp2_with fail
      go_ret
      exact ⟨by rw [HR.out]; first | rfl | (simp; omega), hB.out⟩
theorem refivs_none (a : Option Addr) (cap : Nat) (w : World) : Calls Tryd.prog 19 #[.slice a 0 cap] w (GivesB (fewI []) w) := by
  go_enter Tryd.func19, Tryd.ntmps19
  go_wp2_with fail
  go_loop [3] (fun i => i = .int .i64 0) (fun _ => 0)
  case atStart => rfl
  case round =>
    subst hrel
    go_wp2_with fail
    go_ret
    exact ⟨rfl, Below.refl _ _⟩
theorem refivs_any (v : Value) (l : List Iv) (w : World) (h : IvsOk w v l) : Calls Tryd.prog 19 #[v] w (GivesB (fewI l) w) := by
  rcases h.form with ⟨rfl, a, cap, rfl⟩ | ⟨h0, b, off, cap, rfl, h1, h2, hc⟩
  · exact refivs_none a cap w
  · exact refivs_some b off cap l w h0 h1 h2 h.big hc
/-- numbers as a list of arguments -/
structure NumsOk (w : World) (v : Value) (ns : List Raw) : Prop where
  form : (ns = [] ∧ v = .slice none 0 0) ∨ (0 < ns.length ∧ ∃ b cap, v = .slice (some ⟨b, 0, none⟩) ns.length cap ∧ RatsIn w b ns)
  len : ns.length ≤ 1000
  big : ∀ r ∈ ns, BigR r
theorem NumsOk.bel {w w' : World} {v : Value} {ns : List Raw} (h : NumsOk w v ns) (hb : Below w.heap.size w w') : NumsOk w' v ns :=
  ⟨h.form.imp id (fun ⟨h0, b, cap, e, hr⟩ => ⟨h0, b, cap, e, hr.bel hb⟩), h.len, h.big⟩
theorem refnums_any (v : Value) (ns : List Raw) (w : World) (h : NumsOk w v ns) : Calls Tryd.prog 20 #[.int .i64 60, v] w fun e w' => e = .returned (.bool (fewS ns)) ∧ w = w' := by
  rcases h.form with ⟨rfl, rfl⟩ | ⟨h0, b, cap, rfl, hr⟩
  · exact refrats_nil w
  · exact refrats_any b cap ns w h0 h.len h.big hr
theorem few5_any (v v2 : Value) (l : List Iv) (ns : List Raw) (w : World) (h : IvsOk w v l) (h2 : NumsOk w v2 ns) : Calls Tryd.prog 9 #[v, v2] w (GivesB (fewI l && fewS ns) w) := by
  have hf := Lib.hid (refivs_any v l w h)
  have HN := Lib.hid h2
  obtain ⟨b1, hb1⟩ : ∃ b, b = fewI l := ⟨_, rfl⟩
  rw [← hb1] at hf ⊢
  clear h h2 hb1
  cases b1
  · go_enter Tryd.func9, Tryd.ntmps9
    go_wp2_with fail
    refine hf.out.mono ?_
    rintro e w1 ⟨rfl, hb⟩
    have HB := Lib.hid hb
    clear hb
    go_wp2_with fail
    go_ret
    exact ⟨rfl, HB.out⟩
  · go_enter Tryd.func9, Tryd.ntmps9
    go_wp2_with fail
    refine hf.out.mono ?_
    rintro e w1 ⟨rfl, hb⟩
    have HB := Lib.hid hb
    clear hb
    go_wp2_with fail
    refine (refnums_any v2 ns _ (HN.out.bel HB.out)).mono ?_
    rintro e w2 ⟨rfl, rfl⟩
    go_wp2_with fail
    go_ret
    exact ⟨by simp, HB.out⟩
end Go.Proofs.YtbcoblpnihdhgaaDoor
