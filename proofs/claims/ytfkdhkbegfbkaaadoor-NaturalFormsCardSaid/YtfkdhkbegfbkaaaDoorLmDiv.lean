/-
  The walk of the program's dividedBy.
-/
import Derived.Test.YtfkdhkbegfbkaaaDoorLmLong
set_option linter.unusedVariables false
set_option maxRecDepth 100000
namespace Go.Proofs.YtfkdhkbegfbkaaaDoor
open Go.RowKit
/-- a quotient and a remainder -/
def Divided (m n : Nat) (w : World) (e : Ending) (w' : World) : Prop := ∃ v1 v2, e = .returned (.tuple #[v1, v2]) ∧ IntsIn (fun _ => True) w' v1 (Lim.ls (m / n)) ∧ IntsIn (fun _ => True) w' v2 (Lim.ls (m % n)) ∧ Below w.heap.size w w'
set_option maxHeartbeats 1000000 in
theorem dividedBy_short (m n : Nat) (va vb : Value) (w : World) (hm : IntsIn (fun _ => True) w va (Lim.ls m)) (hn : IntsIn (fun _ => True) w vb (Lim.ls n)) (hml : Lim.nl m ≤ 100000) (hnl : Lim.nl n ≤ 100000) (h1 : ¬ Lim.nl n = 1) (hlt : Lim.nl m < Lim.nl n) :
    Calls Tryd.prog 42 #[va, vb] w (Divided m n w) := by
  have hmn := Lim.lt_of_nl hlt
  have hres : Hid (IntsIn (fun _ => True) w (.slice none 0 0) (Lim.ls (m / n)) ∧ IntsIn (fun _ => True) w va (Lim.ls (m % n))) := Lib.hid (by
    rw [Nat.div_eq_of_lt hmn, Nat.mod_eq_of_lt hmn, Lim.ls_zero]
    exact ⟨IntsIn.nil _ _ _ _ (by omega), hm⟩)
  obtain ⟨a, ca, rfl, a1, a2, a3⟩ := hm.open_
  obtain ⟨b, cb, rfl, b1, b2, b3⟩ := hn.open_
  clear a3 b3 hm hn
  unfold Lim.nl at h1 hlt hml hnl
  generalize (Lim.ls m).length = na at *
  generalize (Lim.ls n).length = nb at *
  have t1 : ((nb : Int) == 1) = false := beq_eq_false_iff_ne.2 (by omega)
  have HR := Lib.hid hres
  clear hres
  go_enter Tryd.func42, Tryd.ntmps42
  go_wp2_with fail
  go_ret2
  exact ⟨_, _, rfl, HR.out.out.1, HR.out.out.2, Below.refl _ _⟩
theorem one_ints (x : Nat) (w : World) : IntsIn (fun b => w.heap.size ≤ b) (w.alloc (.cells #[.int .i64 (x : Int)] 3)) (.slice (some ⟨w.heap.size, 0, none⟩) 1 1) [x] :=
  ⟨_, 1, rfl, Nat.le_refl _, by omega, fun _ => ⟨_, 0, rfl, Nat.le_refl _, fun j hj => by
    have : j = 0 := by simp at hj; exact hj
    subst this
    rw [Lib.cell_of_heap (heap_lastM w _)]; rfl⟩⟩
set_option maxHeartbeats 2000000 in
theorem dividedBy_one (m n : Nat) (va vb : Value) (w : World) (hm : IntsIn (fun _ => True) w va (Lim.ls m)) (hn : IntsIn (fun _ => True) w vb (Lim.ls n)) (hml : Lim.nl m ≤ 100000) (h1 : Lim.nl n = 1) :
    Calls Tryd.prog 42 #[va, vb] w (Divided m n w) := by
  obtain ⟨i0, hi0, hz0, hz1, hz2⟩ := info_parts infoI
  obtain ⟨b, cb, rfl, b1, b2, b3⟩ := hn.open_
  obtain ⟨bb, ob, rfl, _, hcb⟩ := b3 (by rw [show (Lim.ls n).length = 1 from h1]; omega)
  have hcell := hcb 0 (by rw [show (Lim.ls n).length = 1 from h1]; omega)
  have hnB : n < Lim.B := by have := Lim.nl_lt n; rwa [h1, Nat.pow_one] at this
  rw [Lim.pl_ls, Lim.pl_top (t := 0) (by rw [Nat.pow_one]; exact hnB), Nat.pow_zero, Nat.div_one, Nat.add_zero] at hcell
  rw [show (Lim.ls n).length = 1 from h1] at b1 ⊢
  have hn0 : 0 < n := by
    apply Nat.pos_of_ne_zero
    intro e; rw [e, Lim.nl_zero] at h1; omega
  have HM := Lib.hid hm
  have HML := Lib.hid hml
  have HNB := Lib.hid hnB
  have HN0 := Lib.hid hn0
  obtain ⟨q, hq⟩ : ∃ q, q = m / n := ⟨_, rfl⟩
  obtain ⟨r, hr⟩ : ∃ r, r = m % n := ⟨_, rfl⟩
  have HQ := Lib.hid hq
  have HR := Lib.hid hr
  have hrB : Hid (r < Lim.B) := Lib.hid (by rw [hr]; exact Nat.lt_trans (Nat.mod_lt _ hn0) hnB)
  clear hm hn hml hq hr hcb b3 hn0 hnB
  obtain ⟨a, ca, rfl, a1, a2, a3⟩ := HM.out.open_
  clear a3
  go_enter Tryd.func42, Tryd.ntmps42
  go_wp2_with fail
  refine (byLimb_any m n _ _ HM.out HML.out HN0.out HNB.out).mono ?_
  rintro e w1 ⟨v1, rfl, hv1, hb1⟩
  rw [← HQ.out] at hv1
  rw [← HR.out]
  have HV1 := Lib.hid hv1
  have HB1 := Lib.hid hb1
  clear hv1 hb1
  go_wp2_with fail
  refine (trimmed_any _ _ _ _ (one_ints r w1) (Lim.Lo.one hrB.out)).mono ?_
  rintro e w7 ⟨v2, rfl, hv2, rfl⟩
  rw [show Lim.lv [r] = r by simp [Lim.lv]] at hv2
  have HV2 := Lib.hid hv2
  clear hv2
  go_wp2_with fail
  go_ret2
  refine ⟨v1, v2, rfl, ?_, ?_, ?_⟩
  · rw [← HQ.out]; exact (HV1.out.below (alloc_below w1 _)).weaken (fun _ _ _ => trivial)
  · rw [← HR.out]; exact HV2.out.weaken (fun _ _ _ => trivial)
  · exact HB1.out.alloc HB1.out.size _
end Go.Proofs.YtfkdhkbegfbkaaaDoor
