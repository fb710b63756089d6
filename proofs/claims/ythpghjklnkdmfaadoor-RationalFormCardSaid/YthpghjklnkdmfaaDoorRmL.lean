/-
  The statements of layer 4: small functions of them (rat, few), equality of numbers, and the program's answers by values.
-/
import Derived.Test.YthpghjklnkdmfaaDoorRmK
import Derived.Test.YthpghjklnkdmfaaDoorRmI
import Derived.Test.YthpghjklnkdmfaaDoorRmG
import Derived.Test.YthpghjklnkdmfaaDoorRmVX
set_option linter.unusedVariables false
set_option maxRecDepth 100000
namespace Go.Proofs.YthpghjklnkdmfaaDoor
open Go.RowKit
open Rt
theorem prat_any (neg : Bool) (n d : ByteArray) (w : World) : Calls Tryd.prog 17 #[.bool neg, .string n, .string d] w fun e w' => e = .returned (.agg #[.bool neg, .string n, .string d]) ∧ Below w.heap.size w w' := by
  go_enter Tryd.func17, Tryd.ntmps17
  go_wp2_with fail
  refine bodyPost_ret (v := .agg #[.bool neg, .string n, .string d]) (by simp [results, Tryd.results17, go_sem]) rfl ⟨rfl, (Below.refl _ _).alloc (Nat.le_refl _) _⟩
theorem run_neq_rat (a b : Raw) (w : World) : (binOp .neq 24 (.agg #[.bool a.neg, .string a.num, .string a.den]) (.agg #[.bool b.neg, .string b.num, .string b.den])).run Tryd.prog w = .ok (.bool (!sameR a b)) w := by
  have h1 := str_beq a.num b.num
  have h2 := str_beq a.den b.den
  by_cases e0 : a.neg = b.neg
  · by_cases e1 : a.num = b.num
    · by_cases e2 : a.den = b.den
      · have hs : sameR a b = true := sameR_iff.2 (Raw.eq_of e0 e1 e2)
        rw [hs, e0, e1, e2]
        simp [go_sem, run_neq_struct, Program.fieldsOf]
      · have hs : sameR a b = false := Bool.eq_false_iff.2 (fun h => e2 (by rw [sameR_iff.1 h]))
        rw [decide_eq_false e2] at h2
        rw [hs, e0, e1]
        simp [go_sem, run_neq_struct, Program.fieldsOf, h2]
    · have hs : sameR a b = false := Bool.eq_false_iff.2 (fun h => e1 (by rw [sameR_iff.1 h]))
      rw [decide_eq_false e1] at h1
      rw [hs, e0]
      simp [go_sem, run_neq_struct, Program.fieldsOf, h1]
  · have hs : sameR a b = false := Bool.eq_false_iff.2 (fun h => e0 (by rw [sameR_iff.1 h]))
    have h0 : (a.neg == b.neg) = false := by simpa using e0
    rw [hs]
    simp [go_sem, run_neq_struct, Program.fieldsOf, h0]
/-- numbers that lie one after the other -/
def RatsAt (w : World) (b : Nat) (l : List Raw) : Prop := ∀ j (hj : j < l.length), w.cell? ⟨b, j * 3 + 1, none⟩ = some (.string l[j].num) ∧ w.cell? ⟨b, j * 3 + 2, none⟩ = some (.string l[j].den)
def fewR (l : List Raw) : Bool := l.all fun r => decide (r.num.size ≤ 40) && decide (r.den.size ≤ 40)
def OkSz (l : List Raw) : Prop := ∀ r ∈ l, r.num.size ≤ maxLen ∧ r.den.size ≤ maxLen
set_option maxHeartbeats 1000000 in
theorem reffew4 (b cap : Nat) (l : List Raw) (w : World) (h0 : 0 < l.length) (hl : l.length ≤ 1000) (hsz : OkSz l) (hc : RatsAt w b l) :
    Calls Tryd.prog 24 #[.int .i64 40, .slice (some ⟨b, 0, none⟩) l.length cap] w fun e w' => e = .returned (.bool (fewR l)) ∧ w = w' := by
  have HC := Lib.hid hc
  have HS := Lib.hid hsz
  clear hc hsz
  go_enter Tryd.func24, Tryd.ntmps24
  go_wp2_with fail
  go_loop [5] (fun i => ∃ k : Nat, k ≤ l.length ∧ i = .int .i64 k ∧ Hid (∀ j (hj : j < l.length), j < k → l[j].num.size ≤ 40 ∧ l[j].den.size ≤ 40)) (fun i => l.length - (intOf i).toNat)
  case atStart => exact ⟨0, by omega, rfl, (show _ from fun j _ h => absurd h (by omega))⟩
  case round =>
    obtain ⟨k, hk, rfl, hx⟩ := hrel
    by_cases hlt : k < l.length
    · obtain ⟨hc1, hc2⟩ := HC.out k hlt
      have hs := HS.out _ (List.getElem_mem hlt)
      unfold maxLen at hs
      obtain ⟨hs1, hs2⟩ := hs
      by_cases hm : l[k].num.size ≤ 40
      · have t1 : decide (40 < l[k].num.size) = false := decide_eq_false (by omega)
        by_cases hm2 : l[k].den.size ≤ 40
        · have t2 : decide (40 < l[k].den.size) = false := decide_eq_false (by omega)
          go_wp2_with fail
          go_round
          case rel =>
            refine ⟨k + 1, by omega, by go_num, (show _ from fun j hj h => ?_)⟩
            by_cases e : j = k
            · subst e; exact ⟨hm, hm2⟩
            · exact hx.out j hj (by omega)
          case measure => simp [intOf]; omega
        · have t2 : decide (40 < l[k].den.size) = true := decide_eq_true (by omega)
          have hB : fewR l = false := by
            unfold fewR
            rw [List.all_eq_false]
            exact ⟨l[k], List.getElem_mem hlt, by simp [hm2]⟩
          have HB := Lib.hid hB
          clear hB
          go_wp2_with fail
          go_ret
          exact ⟨by rw [HB.out]; rfl, rfl⟩
      · have t1 : decide (40 < l[k].num.size) = true := decide_eq_true (by omega)
        have hB : fewR l = false := by
          unfold fewR
          rw [List.all_eq_false]
          exact ⟨l[k], List.getElem_mem hlt, by simp [hm]⟩
        have HB := Lib.hid hB
        clear hB
        go_wp2_with fail
        go_ret
        exact ⟨by rw [HB.out]; rfl, rfl⟩
    · have hB : fewR l = true := by
        unfold fewR
        rw [List.all_eq_true]
        intro s hs
        obtain ⟨j, hj, rfl⟩ := List.getElem_of_mem hs
        have := hx.out j hj (by omega)
        simp [this.1, this.2]
      have HB := Lib.hid hB
      clear hB
      go_wp2_with fail
      go_ret
      exact ⟨by rw [HB.out]; rfl, rfl⟩
theorem few4_any (b cap : Nat) (l : List Raw) (w : World) (h0 : 0 < l.length) (hl : l.length ≤ 1000) (hsz : OkSz l) (hc : RatsAt w b l) :
    Calls Tryd.prog 10 #[.slice (some ⟨b, 0, none⟩) l.length cap] w fun e w' => e = .returned (.bool (fewR l)) ∧ w = w' := by
  have HF := Lib.hid (reffew4 b cap l w h0 hl hsz hc)
  clear hc hsz
  go_enter Tryd.func10, Tryd.ntmps10
  go_wp2_with fail
  refine HF.out.mono ?_
  rintro e w1 ⟨rfl, rfl⟩
  go_wp2_with fail
  go_ret
  exact ⟨rfl, rfl⟩
theorem few4_two (w : World) (a b : Raw) (hsz : OkSz [a, b]) :
    Calls Tryd.prog 10 #[.slice (some ⟨w.heap.size, 0, none⟩) 2 2] (w.alloc (Obj.cells #[.bool a.neg, .string a.num, .string a.den, .bool b.neg, .string b.num, .string b.den] 24)) fun e w' => e = .returned (.bool (fewR [a, b])) ∧ Below w.heap.size w w' := by
  refine (few4_any w.heap.size 2 [a, b] _ (by simp) (by simp) hsz ?_).mono ?_
  · intro j hj
    match j, hj with
    | 0, _ => simp
    | 1, _ => simp
  · rintro e w' ⟨rfl, rfl⟩
    exact ⟨rfl, (Below.refl _ _).alloc (Nat.le_refl _) _⟩
theorem few4_three (w : World) (a b c : Raw) (hsz : OkSz [a, b, c]) :
    Calls Tryd.prog 10 #[.slice (some ⟨w.heap.size, 0, none⟩) 3 3] (w.alloc (Obj.cells #[.bool a.neg, .string a.num, .string a.den, .bool b.neg, .string b.num, .string b.den, .bool c.neg, .string c.num, .string c.den] 24)) fun e w' => e = .returned (.bool (fewR [a, b, c])) ∧ Below w.heap.size w w' := by
  refine (few4_any w.heap.size 3 [a, b, c] _ (by simp) (by simp) hsz ?_).mono ?_
  · intro j hj
    match j, hj with
    | 0, _ => simp
    | 1, _ => simp
    | 2, _ => simp
  · rintro e w' ⟨rfl, rfl⟩
    exact ⟨rfl, (Below.refl _ _).alloc (Nat.le_refl _) _⟩
end Go.Proofs.YthpghjklnkdmfaaDoor
