/-
  The program's rational package: Text.
-/
import Derived.Test.YthpghjklnkdmfaaGreatDoorRmE
set_option linter.unusedVariables false
set_option maxRecDepth 100000
namespace Go.Proofs.YthpghjklnkdmfaaGreatDoor
open Go.RowKit
open Rt
theorem prattext_bad (r : Raw) (w : World) (h : okR r = false) : Calls Tryz.prog 11 #[.agg #[.bool r.neg, .string r.num, .string r.den]] w (Gives2 (⟨#[]⟩, 1) w) := by
  have hv : Hid (∀ w, Calls Tryz.prog 15 #[.agg #[.bool r.neg, .string r.num, .string r.den]] w (GivesB false w)) := Lib.hid (fun w => by have := pratvalid_any r w; rwa [h] at this)
  have HBW : Hid (Below w.heap.size w (w.alloc (ratO r))) := Lib.hid ((Below.refl _ _).alloc (Nat.le_refl _) _)
  clear h
  go_enter Tryz.func11, Tryz.ntmps11
  go_wp2_with fail
  refine (hv.out _).mono ?_
  rintro en w1 ⟨rfl, hb1⟩
  have HW1 := Lib.hid (HBW.out.trans (hb1.mono HBW.out.size))
  clear hb1
  go_wp2_with fail
  go_ret2
  exact ⟨rfl, HW1.out⟩
theorem ba_nil (s : ByteArray) : s ++ (⟨#[]⟩ : ByteArray) = s := by
  apply tl_inj; simp [tl]
def textS (neg : Bool) (n d : ByteArray) (one : Bool) : ByteArray := (if neg then (⟨#[45]⟩ : ByteArray) ++ n else n) ++ (if one then ⟨#[]⟩ else (⟨#[47]⟩ : ByteArray) ++ d)
set_option maxHeartbeats 1000000 in
theorem prattext_ok (neg : Bool) (n d : ByteArray) (one : Bool) (w : World) (h : okR ⟨neg, n, d⟩ = true) (h1 : isO d = one) (hn : n.size ≤ 1000) (hd : d.size ≤ 1000) : Calls Tryz.prog 11 #[.agg #[.bool neg, .string n, .string d]] w (Gives2 (textS neg n d one, 0) w) := by
  have hv : Hid (∀ w, Calls Tryz.prog 15 #[.agg #[.bool neg, .string n, .string d]] w (GivesB true w)) := Lib.hid (fun w => by have := pratvalid_any ⟨neg, n, d⟩ w; rwa [h] at this)
  have HBW : Hid (Below w.heap.size w (w.alloc (ratO ⟨neg, n, d⟩))) := Lib.hid ((Below.refl _ _).alloc (Nat.le_refl _) _)
  have HR := Lib.hid (RatAt.mk (r := ⟨neg, n, d⟩) (heap_lastM w (ratO ⟨neg, n, d⟩)))
  have o1 := o_str d
  rw [h1] at o1
  clear h h1
  cases neg <;> cases one
  all_goals
    go_enter Tryz.func11, Tryz.ntmps11
    go_wp2_with fail
    refine (hv.out _).mono ?_
    rintro en w1 ⟨rfl, hb1⟩
    have HW1 := Lib.hid (HBW.out.trans (hb1.mono HBW.out.size))
    have hr1 := HR.out.bel hb1
    have c0 := hr1.c0
    have c1 := hr1.c1
    have c2 := hr1.c2
    clear hb1 hr1
    go_wp2_with fail
    go_ret2
    refine ⟨?_, HW1.out⟩
    first | rfl | (unfold textS; simp only [Bool.false_eq_true, if_false, if_true, ba_nil]; rfl)
theorem tl_app (a b : ByteArray) : tl (a ++ b) = tl a ++ tl b := by simp [tl]
theorem textS_is {r : Raw} (h : okR r = true) : textS r.neg r.num r.den (isO r.den) = bx (textL r.q) := by
  obtain ⟨_, hr, _, _⟩ := okR_of h
  have e1 : tl r.num = Dec.digs r.q.num := by
    have : tl r.q.raw.num = Dec.digs r.q.num := tl_bx _
    rwa [hr] at this
  have e2 : tl r.den = Dec.digs r.q.den := by
    have : tl r.q.raw.den = Dec.digs r.q.den := tl_bx _
    rwa [hr] at this
  have e3 : isO r.den = decide (r.q.den = 1) := by
    have : isO r.q.raw.den = decide (r.q.den = 1) := isO_nS _
    rwa [hr] at this
  have e4 : r.neg = r.q.neg := rfl
  apply tl_inj
  rw [tl_bx, e3]
  unfold textS textL
  rw [tl_app, e4]
  have h45 : tl (⟨#[45]⟩ : ByteArray) = [45] := rfl
  have h47 : tl (⟨#[47]⟩ : ByteArray) = [47] := rfl
  have h0 : tl (⟨#[]⟩ : ByteArray) = [] := rfl
  by_cases hd : r.q.den = 1
  · rw [decide_eq_true hd, if_pos hd]
    cases r.q.neg
    · simp [e1, h0]
    · simp [e1, h0, tl_app, h45]
  · rw [decide_eq_false hd, if_neg hd]
    cases r.q.neg
    · simp [e1, e2, tl_app, h47]
    · simp [e1, e2, tl_app, h45, h47]
theorem prattext_any (r : Raw) (w : World) : Calls Tryz.prog 11 #[.agg #[.bool r.neg, .string r.num, .string r.den]] w (Gives2 (textE r) w) := by
  by_cases h : okR r = true
  · have e : textE r = (textS r.neg r.num r.den (isO r.den), 0) := by unfold textE; rw [if_pos h, textS_is h]
    rw [e]
    obtain ⟨_, _, h1, h2⟩ := okR_of h
    exact prattext_ok r.neg r.num r.den _ w h rfl h1 h2
  · have h := Bool.eq_false_iff.2 h
    have e : textE r = (⟨#[]⟩, 1) := by unfold textE; rw [h]; rfl
    rw [e]; exact prattext_bad r w h
end Go.Proofs.YthpghjklnkdmfaaGreatDoor
