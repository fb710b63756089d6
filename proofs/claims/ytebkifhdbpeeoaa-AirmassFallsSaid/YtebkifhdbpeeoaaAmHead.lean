/-
  The chapter's examples (layer 11).
-/
import Derived.Test.YtebkifhdbpeeoaaAmProg
set_option linter.unusedVariables false
set_option maxRecDepth 100000
namespace Go.Proofs.Ytebkifhdbpeeoaa.Am
open Go.RowKit
theorem ex_air1 : airA 900 = (1000, 0) := by decide +kernel
theorem ex_air2 : airA 450 = (2000, 0) := by decide +kernel
theorem ex_air3 : airA 100 = (9000, 0) := by decide +kernel
theorem ex_air4 : airA 99 = (0, 19) := by decide +kernel
theorem ex_air5 : airA 901 = (0, 1) := by decide +kernel
theorem ex_win1 : winA 0 0 0 800 = ([(0, 6), (93, 95)], 0) := by decide +kernel
theorem ex_win2 : winA 0 0 0 892 = ([], 0) := by decide +kernel
theorem ex_win3 : winA 0 0 0 (-1000) = ([(0, 95)], 0) := by decide +kernel
theorem ex_hor1 : horA 0 0 = (-90, 0) := by decide +kernel
theorem ex_hor2 : horA 0 1 = (-30, 0) := by decide +kernel
theorem ex_hor3 : horA 0 2 = (30, 0) := by decide +kernel
theorem ex_hor4 : horA 31 0 = (90, 0) := by decide +kernel
theorem ex_hei1 : heiA 0 0 0 = (872, 0) := by decide +kernel
theorem ex_hei2 : heiA 0 0 1 = (891, 0) := by decide +kernel
theorem ex_hei3 : heiA 0 0 2 = (891, 0) := by decide +kernel
theorem ex_hei4 : heiA 3 0 1 = (741, 0) := by decide +kernel
theorem heap_lastA (w : World) (o : Obj) : (w.alloc o).heap[w.heap.size]? = some o := by show (w.heap.push o)[w.heap.size]? = _; simp
theorem list_lit2 (w : World) (a b c d : Int) : ListS (w.alloc (Obj.cells #[.int .i64 a, .int .i64 b, .int .i64 c, .int .i64 d] 39)) (.slice (some ⟨w.heap.size, 0, none⟩) 2 2) [(a, b), (c, d)] :=
  ⟨⟨_, 2, rfl, by simp, rfl, fun _ => ⟨_, _, rfl, fun j hj => by
    match j, hj with
    | 0, _ => exact ⟨by rw [Lib.cell_of_heap (heap_lastA _ _)]; rfl, by rw [Lib.cell_of_heap (heap_lastA _ _)]; rfl⟩
    | 1, _ => exact ⟨by rw [Lib.cell_of_heap (heap_lastA _ _)]; rfl, by rw [Lib.cell_of_heap (heap_lastA _ _)]; rfl⟩⟩⟩⟩
theorem list_lit1 (w : World) (a b : Int) : ListS (w.alloc (Obj.cells #[.int .i64 a, .int .i64 b] 39)) (.slice (some ⟨w.heap.size, 0, none⟩) 1 1) [(a, b)] :=
  ⟨⟨_, 1, rfl, by simp, rfl, fun _ => ⟨_, _, rfl, fun j hj => by
    match j, hj with
    | 0, _ => exact ⟨by rw [Lib.cell_of_heap (heap_lastA _ _)]; rfl, by rw [Lib.cell_of_heap (heap_lastA _ _)]; rfl⟩⟩⟩⟩
theorem is_ok (n : Int) (w : World) : Calls Try.prog 25 #[.int .i64 n, .int .i64 0, .int .i64 n] w fun e w' => e = .returned (.bool true) ∧ w = w' := by
  go_enter Try.func25, Try.ntmps25
  go_wp2_with fail
  go_ret
  exact ⟨rfl, rfl⟩
theorem hour_ok (c m v : Int) (hc : I64 c) (hm : I64 m) (h : horA c m = (v, 0)) (w : World) : Calls Try.prog 23 #[.int .i64 c, .int .i64 m, .int .i64 v] w fun e w' => e = .returned (.bool true) ∧ Below w.heap.size w w' := by
  have cH := Lib.hid (fun w => pHour_any c m hc hm w)
  rw [h] at cH
  have cI := Lib.hid (fun w => is_ok v w)
  clear h hc hm
  go_enter Try.func23, Try.ntmps23
  go_wp2_with fail
  refine (cH.out _).mono ?_
  rintro e w1 ⟨rfl, hb⟩
  have D := Lib.hid hb
  clear hb
  go_wp2_with fail
  refine (cI.out _).mono ?_
  rintro e w2 ⟨rfl, rfl⟩
  go_wp2_with fail
  go_ret
  exact ⟨rfl, D.out⟩
theorem height_ok (s t m v : Int) (hs : I64 s) (ht : I64 t) (hm : I64 m) (h : heiA s t m = (v, 0)) (w : World) : Calls Try.prog 24 #[.int .i64 s, .int .i64 t, .int .i64 m, .int .i64 v] w fun e w' => e = .returned (.bool true) ∧ Below w.heap.size w w' := by
  have cH := Lib.hid (fun w => pHeight_any s t m hs ht hm w)
  rw [h] at cH
  have cI := Lib.hid (fun w => is_ok v w)
  clear h hs ht hm
  go_enter Try.func24, Try.ntmps24
  go_wp2_with fail
  refine (cH.out _).mono ?_
  rintro e w1 ⟨rfl, hb⟩
  have D := Lib.hid hb
  clear hb
  go_wp2_with fail
  refine (cI.out _).mono ?_
  rintro e w2 ⟨rfl, rfl⟩
  go_wp2_with fail
  go_ret
  exact ⟨rfl, D.out⟩
set_option maxHeartbeats 4000000 in
theorem head_any (w : World) : Calls Try.prog 10 #[] w fun e w' => e = .returned (.bool true) ∧ Below w.heap.size w w' := by
  have a1 : Hid (∀ w, Calls Try.prog 15 #[.int .i64 900] w (GivesN 1000 0 w)) := Lib.hid (fun w => by have := pAirmass_any 900 (by unfold I64; omega) w; rwa [ex_air1] at this)
  have a2 : Hid (∀ w, Calls Try.prog 15 #[.int .i64 450] w (GivesN 2000 0 w)) := Lib.hid (fun w => by have := pAirmass_any 450 (by unfold I64; omega) w; rwa [ex_air2] at this)
  have a3 : Hid (∀ w, Calls Try.prog 15 #[.int .i64 100] w (GivesN 9000 0 w)) := Lib.hid (fun w => by have := pAirmass_any 100 (by unfold I64; omega) w; rwa [ex_air3] at this)
  have a4 : Hid (∀ w, Calls Try.prog 15 #[.int .i64 99] w (GivesN 0 19 w)) := Lib.hid (fun w => by have := pAirmass_any 99 (by unfold I64; omega) w; rwa [ex_air4] at this)
  have a5 : Hid (∀ w, Calls Try.prog 15 #[.int .i64 901] w (GivesN 0 1 w)) := Lib.hid (fun w => by have := pAirmass_any 901 (by unfold I64; omega) w; rwa [ex_air5] at this)
  have b1 : Hid (∀ w, Calls Try.prog 17 #[.int .i64 0, .int .i64 0, .int .i64 0, .int .i64 800] w (GivesS2 [(0, 6), (93, 95)] 0 w)) := Lib.hid (fun w => by have := pWindows_any 0 0 0 800 (by unfold I64; omega) (by unfold I64; omega) (by unfold I64; omega) (by unfold I64; omega) w; rwa [ex_win1] at this)
  have b2 : Hid (∀ w, Calls Try.prog 17 #[.int .i64 0, .int .i64 0, .int .i64 0, .int .i64 892] w (GivesS2 [] 0 w)) := Lib.hid (fun w => by have := pWindows_any 0 0 0 892 (by unfold I64; omega) (by unfold I64; omega) (by unfold I64; omega) (by unfold I64; omega) w; rwa [ex_win2] at this)
  have b3 : Hid (∀ w, Calls Try.prog 17 #[.int .i64 0, .int .i64 0, .int .i64 0, .int .i64 (-1000)] w (GivesS2 [(0, 95)] 0 w)) := Lib.hid (fun w => by have := pWindows_any 0 0 0 (-1000) (by unfold I64; omega) (by unfold I64; omega) (by unfold I64; omega) (by unfold I64; omega) w; rwa [ex_win3] at this)
  have h1 := Lib.hid (fun w => hour_ok 0 0 (-90) (by unfold I64; omega) (by unfold I64; omega) ex_hor1 w)
  have h2 := Lib.hid (fun w => hour_ok 0 1 (-30) (by unfold I64; omega) (by unfold I64; omega) ex_hor2 w)
  have h3 := Lib.hid (fun w => hour_ok 0 2 30 (by unfold I64; omega) (by unfold I64; omega) ex_hor3 w)
  have h4 := Lib.hid (fun w => hour_ok 31 0 90 (by unfold I64; omega) (by unfold I64; omega) ex_hor4 w)
  have g1 := Lib.hid (fun w => height_ok 0 0 0 872 (by unfold I64; omega) (by unfold I64; omega) (by unfold I64; omega) ex_hei1 w)
  have g2 := Lib.hid (fun w => height_ok 0 0 1 891 (by unfold I64; omega) (by unfold I64; omega) (by unfold I64; omega) ex_hei2 w)
  have g3 := Lib.hid (fun w => height_ok 0 0 2 891 (by unfold I64; omega) (by unfold I64; omega) (by unfold I64; omega) ex_hei3 w)
  have g4 := Lib.hid (fun w => height_ok 3 0 1 741 (by unfold I64; omega) (by unfold I64; omega) (by unfold I64; omega) ex_hei4 w)
  have i1 := Lib.hid (fun w => is_ok 1000 w)
  have i2 := Lib.hid (fun w => is_ok 2000 w)
  have i3 := Lib.hid (fun w => is_ok 9000 w)
  have D0 := Lib.hid (Below.refl w.heap.size w)
  go_enter Try.func10, Try.ntmps10
  go_wp2_with fail
  refine (a1.out _).mono ?_
  rintro e w1 ⟨rfl, hb⟩
  have D1 := Lib.hid (D0.out.trans (hb.mono D0.out.size))
  clear hb D0
  go_wp2_with fail
  refine (a2.out _).mono ?_
  rintro e w2 ⟨rfl, hb⟩
  have D2 := Lib.hid (D1.out.trans (hb.mono D1.out.size))
  clear hb D1
  go_wp2_with fail
  refine (a3.out _).mono ?_
  rintro e w3 ⟨rfl, hb⟩
  have D3 := Lib.hid (D2.out.trans (hb.mono D2.out.size))
  clear hb D2
  go_wp2_with fail
  refine (a4.out _).mono ?_
  rintro e w4 ⟨rfl, hb⟩
  have D4 := Lib.hid (D3.out.trans (hb.mono D3.out.size))
  clear hb D3
  go_wp2_with fail
  refine (a5.out _).mono ?_
  rintro e w5 ⟨rfl, hb⟩
  have D5 := Lib.hid (D4.out.trans (hb.mono D4.out.size))
  clear hb D4
  go_wp2_with fail
  refine (b1.out _).mono ?_
  rintro e w6 ⟨x, rfl, hl, hb⟩
  have D6 := Lib.hid (D5.out.trans (hb.mono D5.out.size))
  clear hb D5
  have Lx_6 := Lib.hid hl
  clear hl
  go_wp2_with fail
  refine (b2.out _).mono ?_
  rintro e w7 ⟨y, rfl, hl, hb⟩
  have D7 := Lib.hid (D6.out.trans (hb.mono D6.out.size))
  have Lx_7 := Lib.hid (Lx_6.out.bel hb)
  clear hb D6 Lx_6
  have Ly_7 := Lib.hid hl
  clear hl
  go_wp2_with fail
  refine (b3.out _).mono ?_
  rintro e w8 ⟨z, rfl, hl, hb⟩
  have D8 := Lib.hid (D7.out.trans (hb.mono D7.out.size))
  have Lx_8 := Lib.hid (Lx_7.out.bel hb)
  have Ly_8 := Lib.hid (Ly_7.out.bel hb)
  clear hb D7 Lx_7 Ly_7
  have Lz_8 := Lib.hid hl
  clear hl
  go_wp2_with fail
  refine (h1.out _).mono ?_
  rintro e w9 ⟨rfl, hb⟩
  have D9 := Lib.hid (D8.out.trans (hb.mono D8.out.size))
  have Lx_9 := Lib.hid (Lx_8.out.bel hb)
  have Ly_9 := Lib.hid (Ly_8.out.bel hb)
  have Lz_9 := Lib.hid (Lz_8.out.bel hb)
  clear hb D8 Lx_8 Ly_8 Lz_8
  go_wp2_with fail
  refine (h2.out _).mono ?_
  rintro e w10 ⟨rfl, hb⟩
  have D10 := Lib.hid (D9.out.trans (hb.mono D9.out.size))
  have Lx_10 := Lib.hid (Lx_9.out.bel hb)
  have Ly_10 := Lib.hid (Ly_9.out.bel hb)
  have Lz_10 := Lib.hid (Lz_9.out.bel hb)
  clear hb D9 Lx_9 Ly_9 Lz_9
  go_wp2_with fail
  refine (h3.out _).mono ?_
  rintro e w11 ⟨rfl, hb⟩
  have D11 := Lib.hid (D10.out.trans (hb.mono D10.out.size))
  have Lx_11 := Lib.hid (Lx_10.out.bel hb)
  have Ly_11 := Lib.hid (Ly_10.out.bel hb)
  have Lz_11 := Lib.hid (Lz_10.out.bel hb)
  clear hb D10 Lx_10 Ly_10 Lz_10
  go_wp2_with fail
  refine (h4.out _).mono ?_
  rintro e w12 ⟨rfl, hb⟩
  have D12 := Lib.hid (D11.out.trans (hb.mono D11.out.size))
  have Lx_12 := Lib.hid (Lx_11.out.bel hb)
  have Ly_12 := Lib.hid (Ly_11.out.bel hb)
  have Lz_12 := Lib.hid (Lz_11.out.bel hb)
  clear hb D11 Lx_11 Ly_11 Lz_11
  go_wp2_with fail
  refine (g1.out _).mono ?_
  rintro e w13 ⟨rfl, hb⟩
  have D13 := Lib.hid (D12.out.trans (hb.mono D12.out.size))
  have Lx_13 := Lib.hid (Lx_12.out.bel hb)
  have Ly_13 := Lib.hid (Ly_12.out.bel hb)
  have Lz_13 := Lib.hid (Lz_12.out.bel hb)
  clear hb D12 Lx_12 Ly_12 Lz_12
  go_wp2_with fail
  refine (g2.out _).mono ?_
  rintro e w14 ⟨rfl, hb⟩
  have D14 := Lib.hid (D13.out.trans (hb.mono D13.out.size))
  have Lx_14 := Lib.hid (Lx_13.out.bel hb)
  have Ly_14 := Lib.hid (Ly_13.out.bel hb)
  have Lz_14 := Lib.hid (Lz_13.out.bel hb)
  clear hb D13 Lx_13 Ly_13 Lz_13
  go_wp2_with fail
  refine (g3.out _).mono ?_
  rintro e w15 ⟨rfl, hb⟩
  have D15 := Lib.hid (D14.out.trans (hb.mono D14.out.size))
  have Lx_15 := Lib.hid (Lx_14.out.bel hb)
  have Ly_15 := Lib.hid (Ly_14.out.bel hb)
  have Lz_15 := Lib.hid (Lz_14.out.bel hb)
  clear hb D14 Lx_14 Ly_14 Lz_14
  go_wp2_with fail
  refine (g4.out _).mono ?_
  rintro e w16 ⟨rfl, hb⟩
  have D16 := Lib.hid (D15.out.trans (hb.mono D15.out.size))
  have Lx_16 := Lib.hid (Lx_15.out.bel hb)
  have Ly_16 := Lib.hid (Ly_15.out.bel hb)
  have Lz_16 := Lib.hid (Lz_15.out.bel hb)
  clear hb D15 Lx_15 Ly_15 Lz_15
  go_wp2_with fail
  refine (i1.out _).mono ?_
  rintro e wk ⟨rfl, rfl⟩
  go_wp2_with fail
  refine (i2.out _).mono ?_
  rintro e wk ⟨rfl, rfl⟩
  go_wp2_with fail
  refine (i3.out _).mono ?_
  rintro e wk ⟨rfl, rfl⟩
  obtain ⟨ya, yc, rfl, yk, -⟩ := Ly_16.out.out
  go_wp2_with fail
  have hb2 : Below w16.heap.size w16 (w16.alloc (Obj.cells #[Value.int .i64 0, Value.int .i64 6, Value.int .i64 93, Value.int .i64 95] 39)) := (Below.refl _ _).alloc (Nat.le_refl _) _
  have hI := refSpans_same x _ [(0, 6), (93, 95)] _ (Lx_16.out.bel hb2) (list_lit2 w16 0 6 93 95) (by decide)
  have E1 := Lib.hid (D16.out.trans (hb2.mono D16.out.size))
  have Z1 := Lib.hid (Lz_16.out.bel hb2)
  clear hb2
  refine hI.mono ?_
  rintro e v1 ⟨rfl, hb⟩
  have E2 := Lib.hid (E1.out.trans (hb.mono E1.out.size))
  have Z2 := Lib.hid (Z1.out.bel hb)
  clear hb hI E1 Z1
  go_wp2_with fail
  have hb2 : Below v1.heap.size v1 (v1.alloc (Obj.cells #[Value.int .i64 0, Value.int .i64 95] 39)) := (Below.refl _ _).alloc (Nat.le_refl _) _
  have hI := refSpans_same z _ [(0, 95)] _ (Z2.out.bel hb2) (list_lit1 v1 0 95) (by decide)
  have E3 := Lib.hid (E2.out.trans (hb2.mono E2.out.size))
  clear hb2
  refine hI.mono ?_
  rintro e v2 ⟨rfl, hb⟩
  have E4 := Lib.hid (E3.out.trans (hb.mono E3.out.size))
  clear hb hI
  go_wp2_with fail
  go_ret
  exact ⟨rfl, E4.out⟩
end Go.Proofs.Ytebkifhdbpeeoaa.Am
