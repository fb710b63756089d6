/-
  The program's Split of layer 7.
-/
import Derived.Test.YtcdnddjoonecdaaDoorShPB
set_option linter.unusedVariables false
set_option maxRecDepth 100000
namespace Go.Proofs.YtcdnddjoonecdaaDoor
open Go.RowKit
open Fdp
theorem argsS_all {s n t : Int} {r : List Int} (h1 : 1 ≤ t ∧ t ≤ 16) (h2 : 1 ≤ n ∧ n ≤ t) (h3 : (r.length : Int) = n - 1) : argsS s n t r = allE (s :: r) := by
  unfold argsS; rw [decide_eq_true h1, decide_eq_true h2, decide_eq_true h3]; simp [allE]
theorem evalE_no {l : List Int} {x : Int} (h : allE l = false) : evalE l x = (0, 1) := by unfold evalE; rw [h, if_neg (by simp)]
theorem evalE_yes {l : List Int} {x : Int} (h : allE l = true) (hl : l.length ≤ 16) (hx : El x) : evalE l x = (evF x l, 0) := by unfold evalE; rw [h, okE_iff.2 hx, if_pos (by simpa using hl)]
theorem pvalue_any (a : Option Addr) (n cap : Nat) (l : List Int) (x : Int) (w : World) (h : IntsAt w a n l) (hn : n ≤ maxLen) :
    Calls Tryd.prog 22 #[.slice a n cap, .int .i64 x] w (GivesN (evalE l x) w) := by
  have hc := fEval_any a n cap l x w h hn
  generalize evalE l x = r at *
  clear h hn
  go_enter Tryd.func22, Tryd.ntmps22
  go_wp2_with fail
  refine hc.mono ?_
  rintro e w2 ⟨rfl, hb⟩
  go_wp2_with fail
  go_ret2
  exact ⟨rfl, hb⟩
theorem infoShP : (Tryd.prog.info? 24).map (fun i => (i.zero, i.size, i.bytes)) = some (some (.agg #[.int .i64 0, .int .i64 0]), 2, 16) := by kernel_rfl
theorem append_as (t t' ty e : TypeId) (s x : Value) (w : World) (h : Tryd.prog.underlying t = some (.slice e)) (h' : Tryd.prog.underlying t' = some (.slice e)) :
    (Builtin.append_ #[t, t'] ty #[s, x]).run Tryd.prog w = (Builtin.append_ #[t', t'] ty #[s, x]).run Tryd.prog w := by
  unfold Builtin.append_
  simp [run_underlying h, run_underlying h']
theorem append_cap (t t' ty e : TypeId) (i : TypeInfo) (s : Value) (c : Nat) (w : World) (h : Tryd.prog.underlying t = some (.slice e)) (h' : Tryd.prog.underlying t' = some (.slice e)) (hi : Tryd.prog.info? e = some i) :
    (Builtin.append_ #[t, t'] ty #[s, .slice none 0 c]).run Tryd.prog w = (Builtin.append_ #[t, t'] ty #[s, .slice none 0 0]).run Tryd.prog w := by
  unfold Builtin.append_
  cases s <;> simp [run_underlying h, run_underlying h', Builtin.lenOf, Builtin.firstCells, Builtin.mayShare, sizeOf, typeInfo, hi]
/-- a list of coefficients, and whatever numbers behind it -/
theorem wpList_catC (w : World) {ops : Array Oper} {rest : List Oper} {o : Oper} {a : Act} {Q : Exit → Act → World → Prop} (hgd : o.guard = none) (s x : Operand)
    (ho : o.op = .call { callee := .builtin .append, args := #[s, x], argTypes := #[52, 22] })
    (B : Nat) (u : Value) (P L : List Int) (b : Option Addr) (m c : Nat) (hs : a.eval s = u) (hx : a.eval x = .slice b m c) (h1 : OwnI B w u P) (h2 : IntsAt w b m L)
    (hn : P.length + m ≤ 1000000) (hB : B ≤ w.heap.size)
    (h : ∀ v' w', OwnI B w' v' (P ++ L) → w.grownBy w' u.ownBlock → wpList Tryd.prog ops Q rest (a.put o.dst v') w') : wpList Tryd.prog ops Q (o :: rest) a w := by
  refine wpList_plain hgd fun K hK => ?_
  obtain ⟨i0, hi0, hz0, hz1, hz2⟩ := info_parts infoI
  obtain ⟨c0, hc0⟩ : ∃ c0, c0 = if b = none then 0 else c := ⟨_, rfl⟩
  have hm0 : b = none → m = 0 := fun e => by
    rcases Nat.eq_zero_or_pos m with h0 | h0
    · exact h0
    · obtain ⟨b', off, e', _⟩ := h2.cells h0
      rw [e] at e'; cases e'
  obtain ⟨v', w', hr0, e1, e2, e5⟩ := run_catG w B 22 o.type 3 i0 (.int .i64 0) 1 8 Tryd.underlying22 hi0 hz0 hz1 hz2 rfl (by decide) u P.length (cellsI P) h1 b m c0 (cellsI L) (by simp [cellsI, h2.len])
    (fun ad e j v hj => by
      have hjl : j < L.length := by have := (List.getElem?_eq_some_iff.1 hj).1; simpa [cellsI] using this
      obtain ⟨b', off, e', hc⟩ := h2.cells (by have := h2.len; omega)
      rw [e] at e'
      cases e'
      rw [add_none, hc j hjl]
      simpa [cellsI, hjl] using hj) (fun e => ⟨hm0 e, by rw [hc0, if_pos e]⟩) one_cells (by unfold maxLen; omega) (by omega) hB
  have hr : (Builtin.append_ #[52, 22] o.type #[u, .slice b m c]).run Tryd.prog w = .ok v' w' := by
    rw [append_as _ 22 _ 3 _ _ w Tryd.underlying52 Tryd.underlying22, ← hr0]
    cases b with
    | some ad => rw [hc0, if_neg (by simp)]
    | none =>
      obtain rfl := hm0 rfl
      rw [hc0, if_pos rfl, append_cap _ _ _ 3 _ _ _ _ Tryd.underlying22 Tryd.underlying22 hi0]
  have hO : OwnI B w' v' (P ++ L) := by
    have e3 : (P ++ L).length = P.length + m := by rw [List.length_append, ← h2.len]
    have e4 : cellsI (P ++ L) = cellsI P ++ cellsI L := by simp [cellsI]
    show w'.ownsRow B 3 1 v' (P ++ L).length (cellsI (P ++ L))
    rw [e3, e4]; exact e1
  unfold Oper.wp execOp
  simp only [ho, resolve, invoke, builtin, Sem.run_bind, Sem.run_pure, Result.andThen_ok, List.map_toArray, List.map_cons, List.map_nil, hs, hx, hr]
  exact hK _ _ (h v' w' hO e2)
set_option maxHeartbeats 4000000 in
theorem pSplit_any (secret need total : Int) (a : Option Addr) (n cap : Nat) (l : List Int) (w : World) (h : IntsAt w a n l) (hn : n ≤ maxLen) (hb1 : -9223372036854775808 ≤ need ∧ need ≤ 9223372036854775807) :
    Calls Tryd.prog 6 #[.int .i64 secret, .int .i64 need, .int .i64 total, .slice a n cap] w (GivesSh (splitE secret need total l) w) := by
  have HH := Lib.hid h
  have HL := Lib.hid h.len
  have hmf : ∀ (fn : Fn) (first cap : Array Value) (w : World), (Instr.makeFunc fn first cap).run Tryd.prog w = .ok (.func fn first cap) w := fun _ _ _ _ => rfl
  clear h
  by_cases g1 : 1 ≤ total ∧ total ≤ 16
  · have G1 := Lib.hid g1
    by_cases g2 : 1 ≤ need ∧ need ≤ total
    · have G2 := Lib.hid g2
      have e1 : IntKind.i64.wrap (need - 1) = need - 1 := IntWalk.i64_in _ (by omega)
      by_cases g3 : (n : Int) = need - 1
      · have e3 : ((n : Int) != need - 1) = false := by rw [g3]; simp
        have hA0 : Hid (argsS secret need total l = allE (secret :: l)) := Lib.hid (argsS_all g1 g2 (by rw [← HL.out]; exact g3))
        obtain ⟨T, hT⟩ : ∃ T : Nat, total = (T : Int) := ⟨total.toNat, by omega⟩
        subst hT
        have hT16 : T ≤ 16 := by omega
        have hT1 : 1 ≤ T := by omega
        have hn15 : n ≤ 15 := by omega
        have G3 := Lib.hid g3
        obtain ⟨j0, hj0, jz0, jz1, jz2⟩ := info_parts infoShP
        have hl1 : Hid ([secret].length + n ≤ 1000000) := Lib.hid (by simp; omega)
        have hO1 : Hid (OwnI w.heap.size (w.alloc (Obj.cells #[Value.int .i64 secret] 3)) (.slice (some ⟨w.heap.size, 0, none⟩) 1 1) [secret]) := Lib.hid (World.ownsRow_lit w #[Value.int .i64 secret] 1 (Nat.le_refl _) (by unfold maxLen; omega) rfl)
        have hD1 : Hid (Below w.heap.size w (w.alloc (Obj.cells #[Value.int .i64 secret] 3))) := Lib.hid ((Below.refl _ _).alloc (Nat.le_refl _) _)
        clear g1 g2 g3 hb1 hn
        go_enter Tryd.func6, Tryd.ntmps6
        go_wp2_with fail
        refine (within_yes _ _ _ _ G1.out.1 G1.out.2).mono ?_
        rintro e w' ⟨rfl, rfl⟩
        go_wp2_with fail
        refine (within_yes _ _ _ _ G2.out.1 G2.out.2).mono ?_
        rintro e w' ⟨rfl, rfl⟩
        go_wp2_with (at_builtin; refine wpList_catC _ rfl _ _ rfl w.heap.size _ [secret] l a n cap rfl rfl hO1.out (HH.out.bel hD1.out) hl1.out hD1.out.size ?_)
        intro v5 w5 hO5 hg5
        have HD5 := Lib.hid (below_app hD1.out hD1.out.size hO1.out hg5)
        obtain ⟨pa, pc, rfl, j1, j2, j3⟩ := hO5.at2 (n := n + 1) (by simp; have := HL.out; omega)
        have J3 : Hid (IntsAt w5 pa (n + 1) (secret :: l)) := Lib.hid j3
        obtain ⟨k1, hk1⟩ : ∃ k1, k1 = n + 1 := ⟨_, rfl⟩
        rw [← hk1] at J3 ⊢
        have hk16 : Hid (k1 ≤ 16) := Lib.hid (by omega)
        have HL1 : Hid ((secret :: l).length ≤ 16) := Lib.hid (by simp; have := HL.out; omega)
        clear hO5 hg5 hO1 hD1 j1 j2 j3 hk1
        go_wp2_with (at_make; refine wpList_make_full _ rfl _ _ 28 rfl w5.heap.size 24 j0 (.agg #[.int .i64 0, .int .i64 0]) 2 Tryd.underlying28 hj0 jz0 jz1 _ _ _ _ T rfl rfl (by omega) (by omega) (by rw [jz2]; omega) (by unfold maxLen; omega) (by simp) ?_)
        intro w1 hown hgrow
        have D1 : Hid (Below w5.heap.size w5 w1) := Lib.hid ((Below.refl _ _).grown hgrow (Nat.le_refl _) (fun k h => by cases h))
        obtain ⟨C, hC⟩ : ∃ C, C = secret :: l := ⟨_, rfl⟩
        rw [← hC] at J3 hA0 HL1
        have hR : Hid (RowP 24 w5 w1 w5.heap.size (fillP (sharesL C T) T 0)) := Lib.hid (made_row _ hown D1.out)
        have HS : Hid (T = (sharesL C T).length) := Lib.hid (by rw [sharesL_len])
        have hy0 : Hid (splitE secret need (T : Int) l = if allE C then (sharesL C T, 0) else ([], 1)) := Lib.hid (by unfold splitE; rw [hA0.out, hC, Int.toNat_natCast])
        clear hown hgrow D1 hj0 jz0 jz1 jz2 hC
        cases hcE : allE C with
        | false =>
          have hans : Hid (splitE secret need (T : Int) l = ([], 1)) := Lib.hid (by rw [hy0.out, hcE]; simp)
          have cV : Hid (∀ (x : Int) (w' : World), IntsAt w' pa k1 C → Calls Tryd.prog 22 #[.slice pa k1 pc, .int .i64 x] w' fun e w'' => e = .returned (.tuple #[.int .i64 0, .int .i64 1]) ∧ Below w'.heap.size w' w'') := Lib.hid (fun x w' h => by
            have := pvalue_any pa k1 pc C x w' h (max_small (by have := hk16.out; omega))
            rw [evalE_no hcE] at this; exact this)
          clear hcE
          go_wp2_with fail
          refine wp_loop_rounds 1 ?_
          rw [rounds_succ]
          go_wp2_with fail
          refine (cV.out _ _ (J3.out.bel hR.out.below)).mono ?_
          rintro e w6 ⟨rfl, hb6⟩
          have D6 := Lib.hid (HD5.out.trans ((hR.out.below.trans (hb6.mono hR.out.below.size)).mono HD5.out.size))
          clear hb6
          go_wp2_with fail
          go_ret2
          unfold GivesSh
          rw [hans.out]
          exact ⟨_, rfl, pts_none _, D6.out⟩
        | true =>
          have hans : Hid (splitE secret need (T : Int) l = (sharesL C T, 0)) := Lib.hid (by rw [hy0.out, hcE, if_pos rfl])
          have cV : Hid (∀ (x : Int) (w' : World), IntsAt w' pa k1 C → El x → Calls Tryd.prog 22 #[.slice pa k1 pc, .int .i64 x] w' fun e w'' => e = .returned (.tuple #[.int .i64 (evF x C), .int .i64 0]) ∧ Below w'.heap.size w' w'') := Lib.hid (fun x w' h hx => by
            have := pvalue_any pa k1 pc C x w' h (max_small (by have := hk16.out; omega))
            rw [evalE_yes hcE HL1.out hx] at this; exact this)
          clear hcE
          go_wp2_with fail
          go_loopw [40] (fun ii wr => ∃ k : Nat, k ≤ T ∧ ii = .int .i64 (k : Int) ∧ Hid (RowP 24 w5 wr w5.heap.size (fillP (sharesL C T) T k))) (fun ii _ => T - (intOf ii).toNat)
          case atStart => exact ⟨0, by omega, rfl, hR⟩
          case round =>
            clear hR
            obtain ⟨k, hk, rfl, hR⟩ := hrel
            by_cases hlt : k < T
            · obtain ⟨x, hx⟩ : ∃ x : Nat, x = k + 1 := ⟨_, rfl⟩
              have e7 : IntKind.i64.wrap ((k : Int) + 1) = (x : Int) := by rw [IntWalk.i64_in _ (by omega)]; omega
              obtain ⟨y, hy⟩ : ∃ y, y = evF (x : Int) C := ⟨_, rfl⟩
              have hx16 : Hid (El (x : Int)) := Lib.hid (by unfold El; omega)
              have cE : Hid (∀ w', IntsAt w' pa k1 C → Calls Tryd.prog 22 #[.slice pa k1 pc, .int .i64 (x : Int)] w' fun e w'' => e = .returned (.tuple #[.int .i64 y, .int .i64 0]) ∧ Below w'.heap.size w' w'') := Lib.hid (fun w' h => by rw [hy]; exact cV.out _ w' h hx16.out)
              have hkl : k < (sharesL C T).length := by rw [sharesL_len]; exact hlt
              have hkv : (sharesL C T)[k] = ((x : Int), y) := by rw [sharesL_get C hlt, hy, hx]; simp
              have hnx := Lib.hid (fillP_next HS.out hlt hkv)
              have hzl : k < (fillP (sharesL C T) T k).length := by rw [fillP_len HS.out hk]; exact hlt
              have HZL := Lib.hid hzl
              have HXK := Lib.hid hx
              have b1 : (0 : Int) ≤ (k : Int) := by omega
              have b2 : (k : Int) < (T : Int) := by omega
              clear hx hy hx16 hkl hkv hzl
              go_wp2_with fail
              refine (cE.out _ (J3.out.bel hR.out.below)).mono ?_
              rintro e w6 ⟨rfl, hb6⟩
              have hR6 := Lib.hid (hR.out.bel hb6)
              obtain ⟨hca, hcb⟩ := hR6.out.cell HZL.out
              have hfa := hR6.out.frozen (k * 2)
              have hfb := hR6.out.frozen (k * 2 + 1)
              generalize (fillP (sharesL C T) T k)[k].1 = z0 at hca
              generalize (fillP (sharesL C T) T k)[k].2 = z1 at hcb
              have hR7 : Hid (RowP 24 w5 ((w6.setCell ⟨w5.heap.size, k * 2, none⟩ (.int .i64 (x : Int))).setCell ⟨w5.heap.size, k * 2 + 1, none⟩ (.int .i64 y)) w5.heap.size (fillP (sharesL C T) T x)) := Lib.hid (by
                rw [show fillP (sharesL C T) T x = fillP (sharesL C T) T (k + 1) by rw [HXK.out], ← hnx.out]; exact hR6.out.store k x y)
              clear hb6 hR hR6 HZL
              go_wp2_with fail
              go_roundw
              case rel => exact ⟨x, by have := HXK.out; omega, rfl, hR7⟩
              case measure => have := HXK.out; simp [intOf]; omega
            · obtain rfl : k = T := by omega
              have hR2 : Hid (RowP 24 w5 wr w5.heap.size (sharesL C k)) := Lib.hid (by have := hR.out; rwa [fillP_all HS.out] at this)
              clear hR
              go_wp2_with fail
              go_ret2
              unfold GivesSh
              rw [hans.out]
              have hs := HS.out
              exact ⟨_, rfl, ⟨some ⟨w5.heap.size, 0, none⟩, k, by show Value.slice _ k k = Value.slice _ (sharesL C k).length k; rw [← hs], by show (sharesL C k).length ≤ k; omega, by unfold maxLen; omega, (fun e => by cases e), hR2.out.pts rfl⟩, HD5.out.trans (hR2.out.below.mono HD5.out.size)⟩
      · have e3 : ((n : Int) != need - 1) = true := by simpa using g3
        rw [splitE_len (by rw [← HL.out]; exact g3)]
        clear g1 g2 g3 hb1
        go_enter Tryd.func6, Tryd.ntmps6
        go_wp2_with fail
        refine (within_yes _ _ _ _ G1.out.1 G1.out.2).mono ?_
        rintro e w' ⟨rfl, rfl⟩
        go_wp2_with fail
        refine (within_yes _ _ _ _ G2.out.1 G2.out.2).mono ?_
        rintro e w' ⟨rfl, rfl⟩
        go_wp2_with fail
        go_ret2
        exact ⟨_, rfl, pts_none _, Below.refl _ _⟩
    · rw [splitE_need g2]
      have G2 := Lib.hid g2
      clear g1 g2 hb1
      go_enter Tryd.func6, Tryd.ntmps6
      go_wp2_with fail
      refine (within_yes _ _ _ _ G1.out.1 G1.out.2).mono ?_
      rintro e w' ⟨rfl, rfl⟩
      go_wp2_with fail
      refine (within_no _ _ _ _ G2.out).mono ?_
      rintro e w' ⟨rfl, rfl⟩
      go_wp2_with fail
      go_ret2
      exact ⟨_, rfl, pts_none _, Below.refl _ _⟩
  · rw [splitE_total g1]
    have G1 := Lib.hid g1
    clear g1 hb1
    go_enter Tryd.func6, Tryd.ntmps6
    go_wp2_with fail
    refine (within_no _ _ _ _ G1.out).mono ?_
    rintro e w' ⟨rfl, rfl⟩
    go_wp2_with fail
    go_ret2
    exact ⟨_, rfl, pts_none _, Below.refl _ _⟩
end Go.Proofs.YtcdnddjoonecdaaDoor
