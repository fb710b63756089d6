/-
  The examples of chapter 6, and the head of the statements.
-/
import Derived.Test.YtalhcfffnggpjaaFdLaw
import Derived.Test.YtalhcfffnggpjaaFdHelp
set_option linter.unusedVariables false
set_option maxRecDepth 100000
namespace Go.Proofs.Ytalhcfffnggpjaa
open Go.RowKit
open Fdp
theorem ex_add : addE 2147483646 2 = (1, 0) := by decide
theorem ex_mul : mulE 2147483646 2147483646 = (1, 0) := by decide
theorem ex_inv : invE 2 = (1073741824, 0) := by
  rw [invE_ok (by decide) (by decide)]
  have h : ivI 2 = 1073741824 := E.el (inv_unique prI (by decide) (ivI_is 2 (by decide)) ⟨1, by decide⟩) (ivI_range _) (by decide)
  rw [h]
theorem ex_inv0 : invE 0 = (0, 14) := by unfold invE; rw [if_pos (by decide), if_pos rfl]
theorem ex_invn : invE (-1) = (0, 1) := by unfold invE; rw [if_neg (by decide)]
theorem ex_ev : evalE [5, 3, 1] 2 = (15, 0) := by decide
theorem ex_ev0 : evalE [] 7 = (0, 0) := by decide
theorem ex_i1 : interE [(1, 9), (2, 15)] 0 = (3, 0) := by
  have hp : pairsE [(1, 9), (2, 15)] = true := by decide
  have hd : diffX (Xs [((1 : Int), (9 : Int)), (2, 15)]) = true := by decide
  rw [interE_ok (by decide) hp (by decide) hd, inter_of hp hd [3, 6] (by decide) (fun q hq => by simp at hq; rcases hq with rfl | rfl <;> exact E.of (by decide))]
  rfl
theorem ex_i2 : interE [(1, 9), (1, 9)] 0 = (0, 8) := interE_twice (by decide) (by decide) (by decide) (by decide)
theorem ex_i3 : interE [(1, 9), (2, 15), (3, 23)] 0 = (5, 0) := by
  have hp : pairsE [(1, 9), (2, 15), (3, 23)] = true := by decide
  have hd : diffX (Xs [((1 : Int), (9 : Int)), (2, 15), (3, 23)]) = true := by decide
  rw [interE_ok (by decide) hp (by decide) hd, inter_of hp hd [5, 3, 1] (by decide) (fun q hq => by simp at hq; rcases hq with rfl | rfl | rfl <;> exact E.of (by decide))]
  rfl
theorem hAdd (w : World) : Calls Try.prog 11 #[.int .i64 2147483646, .int .i64 2] w fun e w' => e = .returned (.tuple #[.int .i64 1, .int .i64 0]) ∧ Below w.heap.size w w' := by
  have := fAdd_any 2147483646 2 w; rw [ex_add] at this; exact this
theorem hMul (w : World) : Calls Try.prog 13 #[.int .i64 2147483646, .int .i64 2147483646] w fun e w' => e = .returned (.tuple #[.int .i64 1, .int .i64 0]) ∧ Below w.heap.size w w' := by
  have := fMul_any 2147483646 2147483646 w; rw [ex_mul] at this; exact this
theorem hInv (w : World) : Calls Try.prog 15 #[.int .i64 2] w fun e w' => e = .returned (.tuple #[.int .i64 1073741824, .int .i64 0]) ∧ Below w.heap.size w w' := by
  have := fInverse_any 2 w; rw [ex_inv] at this; exact this
theorem hInv0 (w : World) : Calls Try.prog 15 #[.int .i64 0] w fun e w' => e = .returned (.tuple #[.int .i64 0, .int .i64 14]) ∧ Below w.heap.size w w' := by
  have := fInverse_any 0 w; rw [ex_inv0] at this; exact this
theorem hInvn (w : World) : Calls Try.prog 15 #[.int .i64 (-1)] w fun e w' => e = .returned (.tuple #[.int .i64 0, .int .i64 1]) ∧ Below w.heap.size w w' := by
  have := fInverse_any (-1) w; rw [ex_invn] at this; exact this
theorem hEv (a : Option Addr) (w : World) (h : IntsAt w a 3 [5, 3, 1]) : Calls Try.prog 17 #[.slice a 3 3, .int .i64 2] w fun e w' => e = .returned (.tuple #[.int .i64 15, .int .i64 0]) ∧ Below w.heap.size w w' := by
  have := fEval_any a 3 3 [5, 3, 1] 2 w h (max_small (by decide)); rw [ex_ev] at this; exact this
theorem hEv0 (w : World) : Calls Try.prog 17 #[.slice none 0 0, .int .i64 7] w fun e w' => e = .returned (.tuple #[.int .i64 0, .int .i64 0]) ∧ Below w.heap.size w w' := by
  have := fEval_any none 0 0 [] 7 w (ints_nil w) (max_small (by decide)); rw [ex_ev0] at this; exact this
theorem hI1 (a : Option Addr) (w : World) (h : PtsAt w a 2 [(1, 9), (2, 15)]) : Calls Try.prog 19 #[.slice a 2 2, .int .i64 0] w fun e w' => e = .returned (.tuple #[.int .i64 3, .int .i64 0]) ∧ Below w.heap.size w w' := by
  have := fInter_any a 2 2 [(1, 9), (2, 15)] 0 w h (by decide) (max_small (by decide)); rw [ex_i1] at this; exact this
theorem hI2 (a : Option Addr) (w : World) (h : PtsAt w a 2 [(1, 9), (1, 9)]) : Calls Try.prog 19 #[.slice a 2 2, .int .i64 0] w fun e w' => e = .returned (.tuple #[.int .i64 0, .int .i64 8]) ∧ Below w.heap.size w w' := by
  have := fInter_any a 2 2 [(1, 9), (1, 9)] 0 w h (by decide) (max_small (by decide)); rw [ex_i2] at this; exact this
theorem hI3 (a : Option Addr) (w : World) (h : PtsAt w a 3 [(1, 9), (2, 15), (3, 23)]) : Calls Try.prog 19 #[.slice a 3 3, .int .i64 0] w fun e w' => e = .returned (.tuple #[.int .i64 5, .int .i64 0]) ∧ Below w.heap.size w w' := by
  have := fInter_any a 3 3 [(1, 9), (2, 15), (3, 23)] 0 w h (by decide) (max_small (by decide)); rw [ex_i3] at this; exact this
set_option maxHeartbeats 1000000 in
theorem head_any (w : World) : Calls Try.prog 10 #[] w fun e w' => e = .returned (.bool true) ∧ Below w.heap.size w w' := by
  go_enter Try.func10, Try.ntmps10
  go_wp2_with fail
  refine (hAdd _).mono ?_
  rintro e w1 ⟨rfl, hb⟩
  have D1 := Lib.hid hb
  clear hb
  go_wp2_with fail
  refine (hMul _).mono ?_
  rintro e w2 ⟨rfl, hb⟩
  have D2 := Lib.hid (D1.out.trans (hb.mono D1.out.size))
  clear hb D1
  go_wp2_with fail
  refine (hInv _).mono ?_
  rintro e w3 ⟨rfl, hb⟩
  have D3 := Lib.hid (D2.out.trans (hb.mono D2.out.size))
  clear hb D2
  go_wp2_with fail
  refine (hInv0 _).mono ?_
  rintro e w4 ⟨rfl, hb⟩
  have D4 := Lib.hid (D3.out.trans (hb.mono D3.out.size))
  clear hb D3
  go_wp2_with fail
  refine (hInvn _).mono ?_
  rintro e w5 ⟨rfl, hb⟩
  have D5 := Lib.hid (D4.out.trans (hb.mono D4.out.size))
  clear hb D4
  go_wp2_with fail
  have D6 := Lib.hid (D5.out.alloc D5.out.size (Obj.cells #[Value.int .i64 5, Value.int .i64 3, Value.int .i64 1] 3))
  refine (hEv _ _ (ints_three _ _ _ _ (by simp))).mono ?_
  rintro e w7 ⟨rfl, hb⟩
  have D7 := Lib.hid (D6.out.trans (hb.mono D6.out.size))
  clear hb D5 D6
  go_wp2_with fail
  refine (hEv0 _).mono ?_
  rintro e w8 ⟨rfl, hb⟩
  have D8 := Lib.hid (D7.out.trans (hb.mono D7.out.size))
  clear hb D7
  go_wp2_with fail
  have D9 := Lib.hid (D8.out.alloc D8.out.size (Obj.cells #[Value.int .i64 1, Value.int .i64 9, Value.int .i64 2, Value.int .i64 15] 41))
  refine (hI1 _ _ (pts_two _ _ _ _ _ (by simp))).mono ?_
  rintro e w10 ⟨rfl, hb⟩
  have D10 := Lib.hid (D9.out.trans (hb.mono D9.out.size))
  clear hb D8 D9
  go_wp2_with fail
  have D11 := Lib.hid (D10.out.alloc D10.out.size (Obj.cells #[Value.int .i64 1, Value.int .i64 9, Value.int .i64 1, Value.int .i64 9] 41))
  refine (hI2 _ _ (pts_two _ _ _ _ _ (by simp))).mono ?_
  rintro e w12 ⟨rfl, hb⟩
  have D12 := Lib.hid (D11.out.trans (hb.mono D11.out.size))
  clear hb D10 D11
  go_wp2_with fail
  have D13 := Lib.hid (D12.out.alloc D12.out.size (Obj.cells #[Value.int .i64 1, Value.int .i64 9, Value.int .i64 2, Value.int .i64 15, Value.int .i64 3, Value.int .i64 23] 41))
  refine (hI3 _ _ (pts_three _ _ _ _ _ _ _ (by simp))).mono ?_
  rintro e w14 ⟨rfl, hb⟩
  have D14 := Lib.hid (D13.out.trans (hb.mono D13.out.size))
  clear hb D12 D13
  go_wp2_with fail
  go_ret
  exact ⟨rfl, D14.out⟩
end Go.Proofs.Ytalhcfffnggpjaa
