/-
  The program's rational package: Parse, with strings.Cut at a separator of one byte.
-/
import Derived.Test.YthpghjklnkdmfaaGreatDoorRmJ
import Derived.Test.YthpghjklnkdmfaaGreatDoorRmF
import Derived.Test.YthpghjklnkdmfaaGreatDoorShelf
import Derived.Deep.QuietTactic
import Derived.BigQuiet
set_option linter.unusedVariables false
set_option maxRecDepth 100000
namespace Go.Proofs.YthpghjklnkdmfaaGreatDoor
open Go.RowKit
open Rt
/-- where a byte stands first -/
theorem index_cases (c : UInt8) : ∀ l : List UInt8, (Lib.indexByte l c = -1 ∧ l.dropWhile (fun x => x != c) = []) ∨ ∃ k : Nat, k < l.length ∧ Lib.indexByte l c = (k : Int) ∧ l.takeWhile (fun x => x != c) = l.take k ∧ l.dropWhile (fun x => x != c) = c :: l.drop (k + 1)
  | [] => .inl ⟨rfl, rfl⟩
  | b :: l => by
    by_cases h : b = c
    · subst h
      exact .inr ⟨0, by simp, by simp [Lib.indexByte], by simp, by simp⟩
    · have hb : (b == c) = false := by simpa using h
      have hb' : (b != c) = true := by rw [bne, hb]; rfl
      rcases index_cases c l with ⟨h1, h2⟩ | ⟨k, hk, h1, h2, h3⟩
      · exact .inl ⟨by simp [Lib.indexByte, hb, h1], by simp [List.dropWhile, hb', h2]⟩
      · refine .inr ⟨k + 1, by simpa using hk, ?_, by simp [List.takeWhile, hb', h2], by simp [List.dropWhile, hb', h3]⟩
        have : ((k : Int) == -1) = false := beq_eq_false_iff_ne.2 (by omega)
        simp only [Lib.indexByte, hb, h1, this, Bool.false_eq_true, if_false, Int.natCast_add]
        rfl
theorem take_whole {c : UInt8} {l : List UInt8} (h : l.dropWhile (fun x => x != c) = []) : l.takeWhile (fun x => x != c) = l := by
  have := List.takeWhile_append_dropWhile (p := fun x => x != c) (l := l)
  rw [h, List.append_nil] at this; exact this
def cutBy (c : UInt8) (s : ByteArray) : ByteArray × ByteArray × Bool :=
  match (tl s).dropWhile (fun x => x != c) with
  | [] => (s, ⟨#[]⟩, false)
  | _ :: d => (bx ((tl s).takeWhile (fun x => x != c)), bx d, true)
theorem cutBy_none {c : UInt8} {s : ByteArray} (h : (tl s).dropWhile (fun x => x != c) = []) : cutBy c s = (s, ⟨#[]⟩, false) := by unfold cutBy; rw [h]
theorem ext_take (s : ByteArray) (k : Nat) : s.extract 0 k = bx ((tl s).take k) := by
  apply tl_inj; rw [tl_bx]; simp [tl]
theorem ext_drop (s : ByteArray) (k : Nat) : s.extract k s.size = bx ((tl s).drop k) := by
  apply tl_inj; rw [tl_bx]; exact tl_extract s k
theorem cutBy_some {c : UInt8} {s : ByteArray} {k : Nat} (h1 : (tl s).takeWhile (fun x => x != c) = (tl s).take k) (h2 : (tl s).dropWhile (fun x => x != c) = c :: (tl s).drop (k + 1)) : cutBy c s = (s.extract 0 k, s.extract (k + 1) s.size, true) := by
  unfold cutBy; rw [h2, h1, ext_take, ext_drop]
theorem dn_below (w : World) (n : Nat) : Below w.heap.size w (w.drewN n) := by
  induction n with
  | zero => exact Below.refl _ _
  | succ n ih => exact ih.drew
def Gives3c (r : ByteArray × ByteArray × Bool) (w : World) (e : Ending) (w' : World) : Prop := e = .returned (.tuple #[.string r.1, .string r.2.1, .bool r.2.2]) ∧ Below w.heap.size w w'
set_option maxHeartbeats 1000000 in
theorem liteCut_any (s : ByteArray) (c : UInt8) (w : World) (hs : s.size ≤ maxLen) : Calls Tryz.prog 63 #[.string s, .string ⟨#[c]⟩] w (Gives3c (cutBy c s) w) := by
  unfold maxLen at hs
  have hix : Hid (∀ w, Calls Tryz.prog 81 #[.string s, .string ⟨#[c]⟩] w fun e w' => e = .returned (.int .i64 (Lib.indexByte s.data.toList c)) ∧ w' = w) := Lib.hid (fun w => Tryz.stringslite_Index_one s c w)
  rcases index_cases c (tl s) with ⟨h1, h2⟩ | ⟨k, hk, h1, h2, h3⟩
  · have h1' : Lib.indexByte s.data.toList c = -1 := h1
    rw [h1'] at hix
    rw [cutBy_none h2]
    clear h1 h1' h2
    go_enter Tryz.func63, Tryz.ntmps63
    go_wp2_with fail
    refine (hix.out _).mono ?_
    rintro en w1 ⟨rfl, rfl⟩
    go_wp2_with fail
    exact bodyPost_ret (v := .tuple #[.string s, .string ⟨#[]⟩, .bool false]) (by simp [results, Tryz.results63, go_sem]) rfl ⟨rfl, Below.refl _ _⟩
  · have h1' : Lib.indexByte s.data.toList c = (k : Int) := h1
    rw [tl_length] at hk
    rw [h1'] at hix
    rw [cutBy_some h2 h3]
    have i1 : (0 : Int) ≤ (k : Int) := by omega
    have i2 : (k : Int) ≤ (s.size : Int) := by omega
    have i3 : IntKind.i64.wrap ((k : Int) + 1) = (k : Int) + 1 := IntWalk.i64_in _ (by omega)
    have i4 : (0 : Int) ≤ (k : Int) + 1 := by omega
    have i5 : (k : Int) + 1 ≤ (s.size : Int) := by omega
    have i6 : ((k : Int) + 1).toNat = k + 1 := by omega
    clear h1 h1' h2 h3
    go_enter Tryz.func63, Tryz.ntmps63
    go_wp2_with fail
    refine (hix.out _).mono ?_
    rintro en w1 ⟨rfl, rfl⟩
    go_wp2_with fail
    go_quiet (fail)
    go_wp2_with fail
    exact bodyPost_ret (v := .tuple #[.string (s.extract 0 k), .string (s.extract (k + 1) s.size), .bool true]) (by simp [results, Tryz.results63, go_sem]) rfl ⟨rfl, dn_below _ _⟩
theorem pcut_any (s : ByteArray) (c : UInt8) (w : World) (hs : s.size ≤ maxLen) : Calls Tryz.prog 40 #[.string s, .string ⟨#[c]⟩] w (Gives3c (cutBy c s) w) := by
  have hc : Hid (∀ w, Calls Tryz.prog 63 #[.string s, .string ⟨#[c]⟩] w (Gives3c (cutBy c s) w)) := Lib.hid (fun w => liteCut_any s c w hs)
  generalize cutBy c s = r at *
  clear hs
  go_enter Tryz.func40, Tryz.ntmps40
  go_wp2_with fail
  refine (hc.out _).mono ?_
  rintro en w1 ⟨rfl, hb1⟩
  go_wp2_with fail
  exact bodyPost_ret (v := .tuple #[.string r.1, .string r.2.1, .bool r.2.2]) (by simp [results, Tryz.results40, go_sem]) rfl ⟨rfl, hb1⟩
/-- the parts of a text, as the program takes them -/
def pNeg (t : ByteArray) : Bool := Lib.hasPrefix (tl t) [45]
def pRest (t : ByteArray) : ByteArray := ⟨(Lib.trimPrefix (tl t) [45]).toArray⟩
def pDen (t : ByteArray) : ByteArray := if (cutBy 47 (pRest t)).2.2 then (cutBy 47 (pRest t)).2.1 else ⟨#[49]⟩
def pRaw (t : ByteArray) : Raw := ⟨pNeg t, (cutBy 47 (pRest t)).1, pDen t⟩
def parseP (t : ByteArray) : Raw × Int := if (textE (pRaw t)).2 = 0 ∧ (textE (pRaw t)).1 = t then (pRaw t, 0) else (noRaw, 5)
theorem cutSign_is (t : ByteArray) : cutSign (tl t) = (pNeg t, tl (pRest t)) := by
  unfold cutSign pNeg pRest Lib.trimPrefix Lib.hasPrefix
  cases tl t with
  | nil => rfl
  | cons b l =>
    by_cases h : b = 45
    · subst h; simp [List.isPrefixOf, tl]
    · have hb : (45 == b) = false := by simpa using fun e => h e.symm
      simp [List.isPrefixOf, h, hb, tl]
theorem parse_go {t : ByteArray} {r : Raw} {g : Bool} {n d : List UInt8} (hr : r = ⟨g, bx n, bx d⟩) (hp : parts (tl t) = some (g, n, d)) :
    (if (textE r).2 = 0 ∧ (textE r).1 = t then (r, (0 : Int)) else (noRaw, 5)) = if okR r then (r, 0) else (noRaw, 5) := by
  by_cases ho : okR r = true
  · obtain ⟨_, h, _, _⟩ := okR_of ho
    have hn : Dec.digs r.q.num = n := bx_inj ((congrArg Raw.num h).trans (by rw [hr]))
    have hd : Dec.digs r.q.den = d := bx_inj ((congrArg Raw.den h).trans (by rw [hr]))
    have hg : r.q.neg = g := by rw [hr]; rfl
    have ht : textL r.q = tl t := text_parts (by rw [hn, hd, hg]; exact hp)
    have e : textE r = (t, 0) := by unfold textE; rw [if_pos ho, ht, bx_tl]
    rw [e, if_pos ho, if_pos ⟨rfl, rfl⟩]
  · have e : textE r = (⟨#[]⟩, 1) := by unfold textE; rw [if_neg ho]
    rw [e, if_neg ho, if_neg (by simp)]
theorem parseP_is (t : ByteArray) : parseP t = parseE t := by
  have hc := cutSign_is t
  unfold parseP
  rcases index_cases 47 (tl (pRest t)) with ⟨_, h2⟩ | ⟨k, hk, _, h2, h3⟩
  · have hcut := cutBy_none h2
    have hraw : pRaw t = ⟨pNeg t, bx (tl (pRest t)), bx [49]⟩ := by unfold pRaw pDen; rw [hcut, bx_tl]; rfl
    have hpt : parts (tl t) = some (pNeg t, tl (pRest t), [49]) := by
      unfold parts; rw [hc]; simp only [h2]
    rw [parse_go hraw hpt]
    unfold parseE
    rw [hpt, hraw]
  · have hcut := cutBy_some h2 h3
    have hraw : pRaw t = ⟨pNeg t, bx ((tl (pRest t)).take k), bx ((tl (pRest t)).drop (k + 1))⟩ := by
      unfold pRaw pDen; rw [hcut, ext_take, ext_drop]; rfl
    by_cases hd : (tl (pRest t)).drop (k + 1) = [49]
    · have hpt : parts (tl t) = none := by
        unfold parts; rw [hc]; simp only [h3, hd, if_true]
      unfold parseE
      rw [hpt, if_neg]
      rintro ⟨e1, e2⟩
      by_cases ho : okR (pRaw t) = true
      · have e : textE (pRaw t) = (bx (textL (pRaw t).q), 0) := by unfold textE; rw [if_pos ho]
        rw [e] at e2
        have e3 : textL (pRaw t).q = tl t := by
          have h' := congrArg tl e2
          simp only [tl_bx] at h'
          exact h'
        rw [← e3, parts_text] at hpt
        cases hpt
      · have e : textE (pRaw t) = (⟨#[]⟩, 1) := by unfold textE; rw [if_neg ho]
        rw [e] at e1
        cases e1
    · have hpt : parts (tl t) = some (pNeg t, (tl (pRest t)).take k, (tl (pRest t)).drop (k + 1)) := by
        unfold parts; rw [hc]; simp only [h3, hd, if_false, h2]
      rw [parse_go hraw hpt]
      unfold parseE
      rw [hpt, hraw]
theorem pDen_if (t : ByteArray) : pDen t = if (cutBy 47 (pRest t)).2.2 then (cutBy 47 (pRest t)).2.1 else ⟨#[49]⟩ := rfl
set_option maxHeartbeats 4000000 in
theorem pratparse_any (t : ByteArray) (w : World) (hs : t.size ≤ maxLen) : Calls Tryz.prog 13 #[.string t] w (GivesR (parseE t) w) := by
  obtain ⟨x, hx⟩ : ∃ x, x = parseE t := ⟨_, rfl⟩
  rw [← hx]
  have hx' := hx.trans (parseP_is t).symm
  have hsz : (pRest t).size ≤ maxLen := by
    have : (tl (pRest t)).length ≤ (tl t).length := by
      show (Lib.trimPrefix (tl t) [45]).length ≤ _
      unfold Lib.trimPrefix; split
      · simp
      · exact Nat.le_refl _
    rw [tl_length, tl_length] at this; omega
  have hcp : Hid (∀ w, Calls Tryz.prog 39 #[.string t, .string ⟨#[45]⟩] w fun e w' => e = .returned (.tuple #[.string (pRest t), .bool (pNeg t)]) ∧ w' = w) := Lib.hid (fun w => Tryz.strings_CutPrefix t ⟨#[45]⟩ w)
  have hcc : Hid (∀ w, Calls Tryz.prog 40 #[.string (pRest t), .string ⟨#[47]⟩] w (Gives3c (cutBy 47 (pRest t)) w)) := Lib.hid (fun w => pcut_any (pRest t) 47 w hsz)
  have hbW : Hid (Below w.heap.size w (w.alloc ratZ)) := Lib.hid ((Below.refl _ _).alloc (Nat.le_refl _) _)
  have HZ := Lib.hid (RatAt.mk (r := noRaw) (heap_lastM w ratZ))
  have hq : Hid (pRaw t = ⟨pNeg t, (cutBy 47 (pRest t)).1, if (cutBy 47 (pRest t)).2.2 then (cutBy 47 (pRest t)).2.1 else ⟨#[49]⟩⟩) := Lib.hid rfl
  unfold parseP at hx'
  generalize pRaw t = r at *
  generalize cutBy 47 (pRest t) = c at *
  generalize pRest t = rest at *
  generalize pNeg t = neg at *
  have htx : Hid (∀ w, Calls Tryz.prog 11 #[.agg #[.bool r.neg, .string r.num, .string r.den]] w (Gives2 (textE r) w)) := Lib.hid (fun w => prattext_any r w)
  have hte : (((textE r).1).toList == t.toList) = decide ((textE r).1 = t) := str_beq _ _
  generalize textE r = x2 at *
  obtain ⟨c1, c2, c3⟩ := c
  have HX := Lib.hid hx'
  clear hx hx' hs hsz
  cases c3
  · simp only [Bool.false_eq_true, if_false] at hq
    go_enter Tryz.func13, Tryz.ntmps13
    go_wp2_with fail
    refine (hcp.out _).mono ?_
    rintro en w1 ⟨rfl, hw1⟩
    subst hw1
    go_wp2_with fail
    refine (hcc.out _).mono ?_
    rintro en w2 ⟨rfl, hb2⟩
    have HW2 := Lib.hid (hbW.out.trans (hb2.mono hbW.out.size))
    have HZ2 := Lib.hid (HZ.out.bel hb2)
    clear hb2
    go_wp2_with fail
    obtain ⟨W3, hW3⟩ : ∃ W3, W3 = w2.alloc (ratO ⟨neg, c1, ⟨#[49]⟩⟩) := ⟨_, rfl⟩
    have hR3 : RatAt w2.heap.size ⟨neg, c1, ⟨#[49]⟩⟩ W3 := by rw [hW3]; exact ⟨heap_lastM w2 _⟩
    have hb3 : Below w2.heap.size w2 W3 := by rw [hW3]; exact (Below.refl _ _).alloc (Nat.le_refl _) _
    have HZ3 := Lib.hid (HZ2.out.bel hb3)
    have HW3 := Lib.hid (HW2.out.trans (hb3.mono HW2.out.size))
    have hrr : r = ⟨neg, c1, ⟨#[49]⟩⟩ := hq.out
    subst hrr
    rw [← hW3]
    have HWW := Lib.hid hW3
    have HR3 := Lib.hid hR3
    clear hW3 hR3 hb3
    refine (htx.out _).mono ?_
    rintro en w4 ⟨rfl, hb4⟩
    have hR4 := HR3.out.bel hb4
    have hZ4 := HZ3.out.bel hb4
    have a0 := hR4.c0
    have a1 := hR4.c1
    have a2 := hR4.c2
    have r0 := hZ4.c0
    have r1 := hZ4.c1
    have r2 := hZ4.c2
    have g0 := hZ4.fz 0
    have g1 := hZ4.fz 1
    have g2 := hZ4.fz 2
    have HZ4 := Lib.hid hZ4
    have HW4 := Lib.hid (HW3.out.trans (hb4.mono HW3.out.size))
    clear hb4 hR4 hZ4
    by_cases e0 : x2.2 = 0
    · have t0 : (x2.2 != 0) = false := by rw [e0]; rfl
      by_cases e1 : x2.1 = t
      · rw [decide_eq_true e1] at hte
        have hxx : Hid (x = (⟨neg, c1, ⟨#[49]⟩⟩, 0)) := Lib.hid (by rw [HX.out, if_pos ⟨e0, e1⟩])
        clear e0 e1
        go_wp2_with fail
        (try simp only [Exit.inBlock, Exit.then])
        refine bodyPost_ret (results_rat rfl _ _ w.heap.size ⟨_, _, _⟩ _ rfl rfl (HZ4.out.set ⟨_, _, _⟩)) rfl ?_
        rw [hxx.out]
        exact ⟨rfl, ((HW4.out.setCell (p := ⟨w.heap.size, 0, none⟩) (Nat.le_refl _) _).setCell (p := ⟨w.heap.size, 1, none⟩) (Nat.le_refl _) _).setCell (p := ⟨w.heap.size, 2, none⟩) (Nat.le_refl _) _⟩
      · rw [decide_eq_false e1] at hte
        have hxx : Hid (x = (noRaw, 5)) := Lib.hid (by rw [HX.out, if_neg (fun h => e1 h.2)])
        clear e0 e1
        go_wp2_with fail
        (try simp only [Exit.inBlock, Exit.then])
        refine bodyPost_ret (results_rat rfl _ _ w.heap.size ⟨_, _, _⟩ _ rfl rfl (HZ4.out.set ⟨_, _, _⟩)) rfl ?_
        rw [hxx.out]
        exact ⟨rfl, ((HW4.out.setCell (p := ⟨w.heap.size, 0, none⟩) (Nat.le_refl _) _).setCell (p := ⟨w.heap.size, 1, none⟩) (Nat.le_refl _) _).setCell (p := ⟨w.heap.size, 2, none⟩) (Nat.le_refl _) _⟩
    · have t0 : (x2.2 != 0) = true := by simpa using e0
      have hxx : Hid (x = (noRaw, 5)) := Lib.hid (by rw [HX.out, if_neg (fun h => e0 h.1)])
      clear e0
      go_wp2_with fail
      (try simp only [Exit.inBlock, Exit.then])
      refine bodyPost_ret (results_rat rfl _ _ w.heap.size ⟨_, _, _⟩ _ rfl rfl (HZ4.out.set ⟨_, _, _⟩)) rfl ?_
      rw [hxx.out]
      exact ⟨rfl, ((HW4.out.setCell (p := ⟨w.heap.size, 0, none⟩) (Nat.le_refl _) _).setCell (p := ⟨w.heap.size, 1, none⟩) (Nat.le_refl _) _).setCell (p := ⟨w.heap.size, 2, none⟩) (Nat.le_refl _) _⟩
  · simp only [if_true] at hq
    go_enter Tryz.func13, Tryz.ntmps13
    go_wp2_with fail
    refine (hcp.out _).mono ?_
    rintro en w1 ⟨rfl, hw1⟩
    subst hw1
    go_wp2_with fail
    refine (hcc.out _).mono ?_
    rintro en w2 ⟨rfl, hb2⟩
    have HW2 := Lib.hid (hbW.out.trans (hb2.mono hbW.out.size))
    have HZ2 := Lib.hid (HZ.out.bel hb2)
    clear hb2
    go_wp2_with fail
    obtain ⟨W3, hW3⟩ : ∃ W3, W3 = w2.alloc (ratO ⟨neg, c1, c2⟩) := ⟨_, rfl⟩
    have hR3 : RatAt w2.heap.size ⟨neg, c1, c2⟩ W3 := by rw [hW3]; exact ⟨heap_lastM w2 _⟩
    have hb3 : Below w2.heap.size w2 W3 := by rw [hW3]; exact (Below.refl _ _).alloc (Nat.le_refl _) _
    have HZ3 := Lib.hid (HZ2.out.bel hb3)
    have HW3 := Lib.hid (HW2.out.trans (hb3.mono HW2.out.size))
    have hrr : r = ⟨neg, c1, c2⟩ := hq.out
    subst hrr
    rw [← hW3]
    have HWW := Lib.hid hW3
    have HR3 := Lib.hid hR3
    clear hW3 hR3 hb3
    refine (htx.out _).mono ?_
    rintro en w4 ⟨rfl, hb4⟩
    have hR4 := HR3.out.bel hb4
    have hZ4 := HZ3.out.bel hb4
    have a0 := hR4.c0
    have a1 := hR4.c1
    have a2 := hR4.c2
    have r0 := hZ4.c0
    have r1 := hZ4.c1
    have r2 := hZ4.c2
    have g0 := hZ4.fz 0
    have g1 := hZ4.fz 1
    have g2 := hZ4.fz 2
    have HZ4 := Lib.hid hZ4
    have HW4 := Lib.hid (HW3.out.trans (hb4.mono HW3.out.size))
    clear hb4 hR4 hZ4
    by_cases e0 : x2.2 = 0
    · have t0 : (x2.2 != 0) = false := by rw [e0]; rfl
      by_cases e1 : x2.1 = t
      · rw [decide_eq_true e1] at hte
        have hxx : Hid (x = (⟨neg, c1, c2⟩, 0)) := Lib.hid (by rw [HX.out, if_pos ⟨e0, e1⟩])
        clear e0 e1
        go_wp2_with fail
        (try simp only [Exit.inBlock, Exit.then])
        refine bodyPost_ret (results_rat rfl _ _ w.heap.size ⟨_, _, _⟩ _ rfl rfl (HZ4.out.set ⟨_, _, _⟩)) rfl ?_
        rw [hxx.out]
        exact ⟨rfl, ((HW4.out.setCell (p := ⟨w.heap.size, 0, none⟩) (Nat.le_refl _) _).setCell (p := ⟨w.heap.size, 1, none⟩) (Nat.le_refl _) _).setCell (p := ⟨w.heap.size, 2, none⟩) (Nat.le_refl _) _⟩
      · rw [decide_eq_false e1] at hte
        have hxx : Hid (x = (noRaw, 5)) := Lib.hid (by rw [HX.out, if_neg (fun h => e1 h.2)])
        clear e0 e1
        go_wp2_with fail
        (try simp only [Exit.inBlock, Exit.then])
        refine bodyPost_ret (results_rat rfl _ _ w.heap.size ⟨_, _, _⟩ _ rfl rfl (HZ4.out.set ⟨_, _, _⟩)) rfl ?_
        rw [hxx.out]
        exact ⟨rfl, ((HW4.out.setCell (p := ⟨w.heap.size, 0, none⟩) (Nat.le_refl _) _).setCell (p := ⟨w.heap.size, 1, none⟩) (Nat.le_refl _) _).setCell (p := ⟨w.heap.size, 2, none⟩) (Nat.le_refl _) _⟩
    · have t0 : (x2.2 != 0) = true := by simpa using e0
      have hxx : Hid (x = (noRaw, 5)) := Lib.hid (by rw [HX.out, if_neg (fun h => e0 h.1)])
      clear e0
      go_wp2_with fail
      (try simp only [Exit.inBlock, Exit.then])
      refine bodyPost_ret (results_rat rfl _ _ w.heap.size ⟨_, _, _⟩ _ rfl rfl (HZ4.out.set ⟨_, _, _⟩)) rfl ?_
      rw [hxx.out]
      exact ⟨rfl, ((HW4.out.setCell (p := ⟨w.heap.size, 0, none⟩) (Nat.le_refl _) _).setCell (p := ⟨w.heap.size, 1, none⟩) (Nat.le_refl _) _).setCell (p := ⟨w.heap.size, 2, none⟩) (Nat.le_refl _) _⟩
end Go.Proofs.YthpghjklnkdmfaaGreatDoor
