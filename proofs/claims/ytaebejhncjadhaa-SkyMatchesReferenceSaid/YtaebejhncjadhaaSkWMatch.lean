/-
  The law SkyMatchesReference (layer 10): its walk.
-/
import Derived.Test.YtaebejhncjadhaaSkHead
set_option linter.unusedVariables false
set_option maxRecDepth 100000
namespace Go.Proofs.Ytaebejhncjadhaa
open Go.RowKit
open Sk
set_option maxHeartbeats 4000000 in
theorem walkSkyMatchesReference (x y a b r : Int) (w : World) (hx : -9223372036854775808 ≤ x ∧ x ≤ 9223372036854775807) (hy : -9223372036854775808 ≤ y ∧ y ≤ 9223372036854775807) (ha : -9223372036854775808 ≤ a ∧ a ≤ 9223372036854775807) (hb : -9223372036854775808 ≤ b ∧ b ≤ 9223372036854775807) (hr : -9223372036854775808 ≤ r ∧ r ≤ 9223372036854775807) :
    Calls Try.prog 3 #[.agg #[.int .i64 x, .int .i64 y], .int .i64 a, .int .i64 b, .int .i64 r] w fun e w' => e = .returned (.bool true) ∧ Below w.heap.size w w' := by
  have c1 : Hid (∀ w, Calls Try.prog 9 _ w _) := Lib.hid (fun w => pTile_any x y (i64_of hx) (i64_of hy) w)
  have d1 : Hid (∀ w, Calls Try.prog 10 _ w _) := Lib.hid (fun w => refTile_any x y w)
  have c2 : Hid (∀ w, Calls Try.prog 11 _ w _) := Lib.hid (fun w => pCell_any x y (i64_of hx) (i64_of hy) w)
  have d2 : Hid (∀ w, Calls Try.prog 12 _ w _) := Lib.hid (fun w => refCell_any x y w)
  have c3 : Hid (∀ w, Calls Try.prog 13 _ w _) := Lib.hid (fun w => pCentre_any a (i64_of ha) w)
  have d3 : Hid (∀ w, Calls Try.prog 14 _ w _) := Lib.hid (fun w => refCentre_any a w)
  have c4 : Hid (∀ w, Calls Try.prog 15 _ w _) := Lib.hid (fun w => pDistance_any a b (i64_of ha) (i64_of hb) w)
  have d4 : Hid (∀ w, Calls Try.prog 16 _ w _) := Lib.hid (fun w => refDistance_any a b w)
  have c5 : Hid (∀ w, Calls Try.prog 17 _ w _) := Lib.hid (fun w => pNear_any a r (i64_of ha) (i64_of hr) w)
  have d5 : Hid (∀ w, Calls Try.prog 18 _ w _) := Lib.hid (fun w => refNear_any a r w)
  have hmax : Hid ((neaA a r).1.length ≤ 1000000) := Lib.hid (neaA_len a r)
  generalize (tilA x y).1 = u1 at c1 d1
  generalize (tilA x y).2 = v1 at c1 d1
  generalize (celA x y).1 = u2 at c2 d2
  generalize (celA x y).2 = v2 at c2 d2
  generalize (cenA a).1 = u3 at c3 d3
  generalize (cenA a).2.1 = u3b at c3 d3
  generalize (cenA a).2.2 = v3 at c3 d3
  generalize (disA a b).1 = u4 at c4 d4
  generalize (disA a b).2 = v4 at c4 d4
  generalize (neaA a r).1 = u5 at c5 d5 hmax
  generalize (neaA a r).2 = v5 at c5 d5
  clear hx hy ha hb hr
  have D0 := Lib.hid (Below.refl w.heap.size w)
  go_enter Try.func3, Try.ntmps3
  go_wp2_with fail
  obtain ⟨w1, hw1⟩ : ∃ W, W = w.alloc (Obj.cells #[Value.int .i64 x, Value.int .i64 y] 23) := ⟨_, rfl⟩
  obtain ⟨BP, hBP⟩ : ∃ B, B = w.heap.size := ⟨_, rfl⟩
  have hp : PosAt BP x y w1 := by rw [hBP, hw1]; exact PosAt.new _ _ _
  have hb : Below w.heap.size w w1 := by rw [hw1]; exact (Below.refl _ _).alloc (Nat.le_refl _) _
  have D1 := Lib.hid (D0.out.trans (hb.mono D0.out.size))
  have P_1 := Lib.hid hp
  rw [← hw1]
  simp only [← hBP]
  clear hp hb hBP hw1 D0
  refine (head_any _).mono ?_
  rintro e w2 ⟨rfl, hb⟩
  have D2 := Lib.hid (D1.out.trans (hb.mono D1.out.size))
  have P_2 := Lib.hid (P_1.out.bel hb)
  clear hb D1 P_1
  have Pc0 := P_2.out.c0
  have Pc1 := P_2.out.c1
  go_wp2_with fail
  clear Pc0 Pc1
  refine (c1.out _).mono ?_
  rintro e w3 ⟨rfl, hb⟩
  have D3 := Lib.hid (D2.out.trans (hb.mono D2.out.size))
  have P_3 := Lib.hid (P_2.out.bel hb)
  clear hb D2 P_2
  have Pc0 := P_3.out.c0
  have Pc1 := P_3.out.c1
  go_wp2_with fail
  clear Pc0 Pc1
  refine (d1.out _).mono ?_
  rintro e w4 ⟨rfl, hb⟩
  have D4 := Lib.hid (D3.out.trans (hb.mono D3.out.size))
  have P_4 := Lib.hid (P_3.out.bel hb)
  clear hb D3 P_3
  have Pc0 := P_4.out.c0
  have Pc1 := P_4.out.c1
  go_wp2_with fail
  clear Pc0 Pc1
  refine (c2.out _).mono ?_
  rintro e w5 ⟨rfl, hb⟩
  have D5 := Lib.hid (D4.out.trans (hb.mono D4.out.size))
  have P_5 := Lib.hid (P_4.out.bel hb)
  clear hb D4 P_4
  have Pc0 := P_5.out.c0
  have Pc1 := P_5.out.c1
  go_wp2_with fail
  clear Pc0 Pc1
  refine (d2.out _).mono ?_
  rintro e w6 ⟨rfl, hb⟩
  have D6 := Lib.hid (D5.out.trans (hb.mono D5.out.size))
  have P_6 := Lib.hid (P_5.out.bel hb)
  clear hb D5 P_5
  go_wp2_with fail
  refine (c3.out _).mono ?_
  rintro e w7 ⟨rfl, hb⟩
  have D7 := Lib.hid (D6.out.trans (hb.mono D6.out.size))
  have P_7 := Lib.hid (P_6.out.bel hb)
  clear hb D6 P_6
  go_wp2_with fail
  obtain ⟨w8, hw8⟩ : ∃ W, W = w7.alloc (Obj.cells #[Value.int .i64 u3, Value.int .i64 u3b] 23) := ⟨_, rfl⟩
  obtain ⟨BS, hBS⟩ : ∃ B, B = w7.heap.size := ⟨_, rfl⟩
  have hp : PosAt BS u3 u3b w8 := by rw [hBS, hw8]; exact PosAt.new _ _ _
  have hb : Below w7.heap.size w7 w8 := by rw [hw8]; exact (Below.refl _ _).alloc (Nat.le_refl _) _
  have D8 := Lib.hid (D7.out.trans (hb.mono D7.out.size))
  have P_8 := Lib.hid (P_7.out.bel hb)
  have S_8 := Lib.hid hp
  rw [← hw8]
  simp only [← hBS]
  clear hp hb hBS hw8 D7 P_7
  refine (d3.out _).mono ?_
  rintro e w9 ⟨rfl, hb⟩
  have D9 := Lib.hid (D8.out.trans (hb.mono D8.out.size))
  have P_9 := Lib.hid (P_8.out.bel hb)
  have S_9 := Lib.hid (S_8.out.bel hb)
  clear hb D8 P_8 S_8
  go_wp2_with fail
  obtain ⟨w10, hw10⟩ : ∃ W, W = w9.alloc (Obj.cells #[Value.int .i64 u3, Value.int .i64 u3b] 23) := ⟨_, rfl⟩
  obtain ⟨BT, hBT⟩ : ∃ B, B = w9.heap.size := ⟨_, rfl⟩
  have hp : PosAt BT u3 u3b w10 := by rw [hBT, hw10]; exact PosAt.new _ _ _
  have hb : Below w9.heap.size w9 w10 := by rw [hw10]; exact (Below.refl _ _).alloc (Nat.le_refl _) _
  have D10 := Lib.hid (D9.out.trans (hb.mono D9.out.size))
  have P_10 := Lib.hid (P_9.out.bel hb)
  have S_10 := Lib.hid (S_9.out.bel hb)
  have T_10 := Lib.hid hp
  rw [← hw10]
  simp only [← hBT]
  clear hp hb hBT hw10 D9 P_9 S_9
  refine (c4.out _).mono ?_
  rintro e w11 ⟨rfl, hb⟩
  have D11 := Lib.hid (D10.out.trans (hb.mono D10.out.size))
  have P_11 := Lib.hid (P_10.out.bel hb)
  have S_11 := Lib.hid (S_10.out.bel hb)
  have T_11 := Lib.hid (T_10.out.bel hb)
  clear hb D10 P_10 S_10 T_10
  go_wp2_with fail
  refine (d4.out _).mono ?_
  rintro e w12 ⟨rfl, hb⟩
  have D12 := Lib.hid (D11.out.trans (hb.mono D11.out.size))
  have P_12 := Lib.hid (P_11.out.bel hb)
  have S_12 := Lib.hid (S_11.out.bel hb)
  have T_12 := Lib.hid (T_11.out.bel hb)
  clear hb D11 P_11 S_11 T_11
  go_wp2_with fail
  refine (c5.out _).mono ?_
  rintro e w13 ⟨va, rfl, hl, hb⟩
  have D13 := Lib.hid (D12.out.trans (hb.mono D12.out.size))
  have P_13 := Lib.hid (P_12.out.bel hb)
  have S_13 := Lib.hid (S_12.out.bel hb)
  have T_13 := Lib.hid (T_12.out.bel hb)
  clear hb D12 P_12 S_12 T_12
  have Lva_13 := Lib.hid hl
  clear hl
  go_wp2_with fail
  refine (d5.out _).mono ?_
  rintro e w14 ⟨vb, rfl, hl, hb⟩
  have D14 := Lib.hid (D13.out.trans (hb.mono D13.out.size))
  have P_14 := Lib.hid (P_13.out.bel hb)
  have S_14 := Lib.hid (S_13.out.bel hb)
  have T_14 := Lib.hid (T_13.out.bel hb)
  have Lva_14 := Lib.hid (Lva_13.out.bel hb)
  clear hb D13 P_13 S_13 T_13 Lva_13
  have Lvb_14 := Lib.hid hl
  clear hl
  have Sc0 := S_14.out.c0
  have Sc1 := S_14.out.c1
  have Tc0 := T_14.out.c0
  have Tc1 := T_14.out.c1
  go_wp2_with fail
  clear Sc0 Sc1 Tc0 Tc1
  have hI := refInts_any va vb u5 u5 _ Lva_14.out Lvb_14.out hmax.out
  rw [decide_eq_true rfl] at hI
  refine hI.mono ?_
  rintro e w15 ⟨rfl, hb⟩
  have D15 := Lib.hid (D14.out.trans (hb.mono D14.out.size))
  clear hb hI
  go_wp2_with fail
  go_ret
  exact ⟨rfl, D15.out⟩
end Go.Proofs.Ytaebejhncjadhaa
