/-
  The program's calendar (layer 9): what it calls of Go's library, over this translation.
-/
import Derived.Test.YtkjflpkokeckgaaDoorCaPA
import Derived.Test.YtkjflpkokeckgaaDoorCaPar
import Derived.Test.YtkjflpkokeckgaaDoorShelf
import Derived.Lib.AtoiErrMem
import Derived.Lib.Strings
import Derived.Lib.IndexBytes
import Derived.FnData
import Derived.Shelf.RegionOpenPlain
import Derived.Lib.IndexMore
set_option linter.unusedVariables false
set_option maxRecDepth 100000
namespace Go.Proofs.YtkjflpkokeckgaaDoor
open Go.RowKit
open Ca
abbrev TabOk (w : World) : Prop := Lib.TabIs Tryd.prog w "internal/strconv.uint64pow10" .u64 Lib.pow10Tab
theorem glob_lt {w : World} {nm : String} {g : Nat} {cs : Array Value} (hg : Tryd.prog.globalNamed nm = some g) (h : w.var? Tryd.prog nm = some cs) : g < w.heap.size := by
  unfold World.var? at h
  rw [hg] at h
  simp only [Option.bind_some] at h
  rcases Nat.lt_or_ge g w.heap.size with h2 | h2
  · exact h2
  · rw [Array.getElem?_eq_none h2] at h; simp at h
theorem var_below {w w' : World} {nm : String} {g : Nat} {cs : Array Value} (hg : Tryd.prog.globalNamed nm = some g) (hb : Below w.heap.size w w') (h : w.var? Tryd.prog nm = some cs) : w'.var? Tryd.prog nm = some cs := by
  have hlt := glob_lt hg h
  unfold World.var? at h ⊢
  rw [hg] at h ⊢
  simp only [Option.bind_some] at h ⊢
  rw [hb.block g hlt]
  exact h
theorem var_cell {w : World} {nm : String} {g : Nat} {v : Value} (hg : Tryd.prog.globalNamed nm = some g) (h : w.var? Tryd.prog nm = some #[v]) : w.cell? ⟨g, 0, none⟩ = some v := by
  rw [World.var?_cell hg h]; rfl
theorem TabOk.below {w w' : World} (h : TabOk w) (hb : Below w.heap.size w w') : TabOk w' :=
  var_below (show Tryd.prog.globalNamed "internal/strconv.uint64pow10" = some 3 by kernel_rfl) hb h
def ErrOk (w : World) : Prop := ∃ tp p, w.var? Tryd.prog "strconv.ErrRange" = some #[.iface tp p]
def SynOk (w : World) : Prop := ∃ tp p, w.var? Tryd.prog "strconv.ErrSyntax" = some #[.iface tp p]
theorem ErrOk.below {w w' : World} (h : ErrOk w) (hb : Below w.heap.size w w') : ErrOk w' := by
  obtain ⟨tp, p, h⟩ := h
  exact ⟨tp, p, var_below (show Tryd.prog.globalNamed "strconv.ErrRange" = some 1 by kernel_rfl) hb h⟩
theorem SynOk.below {w w' : World} (h : SynOk w) (hb : Below w.heap.size w w') : SynOk w' := by
  obtain ⟨tp, p, h⟩ := h
  exact ⟨tp, p, var_below (show Tryd.prog.globalNamed "strconv.ErrSyntax" = some 0 by kernel_rfl) hb h⟩
/-- what the library's package-level variables hold -/
structure Env (w : World) : Prop where
  tab : TabOk w
  err : ErrOk w
  syn : SynOk w
theorem Env.below {w w' : World} (h : Env w) (hb : Below w.heap.size w w') : Env w' := ⟨h.tab.below hb, h.err.below hb, h.syn.below hb⟩
theorem grow_below (w : World) (k : Nat) (os : Array Obj) : Below w.heap.size w (Sort.grow (w.drewN k) os) := by
  refine ⟨rfl, rfl, rfl, by simp [Sort.grow], fun j hj => ?_⟩
  simp only [Sort.grow, World.heap_drewN]
  rw [Array.getElem?_append_left hj]
theorem drewN_below (w : World) (k : Nat) : Below w.heap.size w (w.drewN k) := ⟨rfl, rfl, rfl, by simp, fun j hj => by simp⟩
/-- strconv.Itoa -/
theorem itoa_any (n : Int) (hn : I64 n) (w : World) (he : Env w) : Calls Tryd.prog 24 #[.int .i64 n] w fun e w' => e = .returned (.string (ba (Lib.itoa n))) ∧ Below w.heap.size w w' := by
  refine (Tryd.strconv_Itoa n hn.1 hn.2 w he.tab).mono ?_
  rintro e w' ⟨rfl, k, os, rfl⟩
  exact ⟨rfl, grow_below w k os⟩
/-- strconv.Atoi of the string of an int -/
theorem atoi_ok (s : ByteArray) (hs : s.size ≤ 1000000) (v : Int) (h : Lib.atoiAll (bl s) = .ok v) (w : World) : Calls Tryd.prog 27 #[.string s] w fun e w' => e = .returned (.tuple #[.int .i64 v, .nilIface]) ∧ Below w.heap.size w w' := by
  refine (Tryd.strconv_Atoi_ok s (by omega) v h w).mono ?_
  rintro e w' ⟨rfl, hw⟩
  refine ⟨rfl, ?_⟩
  rcases hw with rfl | ⟨t, rfl⟩
  · exact Below.refl _ _
  · exact Lib.bytesWorld_below w _ t
/-- strconv.Atoi of another string: an error -/
theorem atoi_no (s : ByteArray) (hs : s.size ≤ 1000000) (h : ∀ v, Lib.atoiAll (bl s) ≠ .ok v) (w : World) (he : Env w) : Calls Tryd.prog 27 #[.string s] w fun e w' => ∃ v t p, I64 v ∧ e = .returned (.tuple #[.int .i64 v, .iface t p]) ∧ Below w.heap.size w w' := by
  cases hq : Lib.atoiAll (bl s) with
  | ok v => exact absurd hq (h v)
  | range =>
    obtain ⟨tp, p, hv⟩ := he.err
    refine (Tryd.strconv_Atoi_range s (by omega) hq (.iface tp p) w (var_cell (by kernel_rfl) hv) (.inr ⟨_, _, rfl⟩)).mono ?_
    rintro e w' ⟨N, rfl, _, _, hb⟩
    exact ⟨_, _, _, Lib.atoiSat_bounds _, rfl, hb⟩
  | _ =>
    obtain ⟨tp, p, hv⟩ := he.syn
    refine (Any.strconv_Atoi_syntax Tryd.laysC172 s (by omega) hq (.iface tp p) w (var_cell (by kernel_rfl) hv) (.inr ⟨_, _, rfl⟩)).mono ?_
    rintro e w' ⟨N, rfl, _, _, hb⟩
    exact ⟨_, _, _, ⟨by decide, by decide⟩, rfl, hb⟩
theorem idx_one (s : ByteArray) : Lib.indexByte s.data.toList 46 = Lib.index (bl s) [46] := (Lib.index_one _ _).symm
/-- internal/stringslite.Cut at a dot -/
theorem liteCut_any (s : ByteArray) (hs : s.size ≤ 1000000) (w : World) : Calls Tryd.prog 34 #[.string s, .string ⟨#[46]⟩] w fun e w' => ∃ b, e = .returned (.tuple #[.string (ba (headL (bl s))), .string (ba (tailL (bl s))), .bool b]) ∧ Below w.heap.size w w' := by
  have cX := Lib.hid (Tryd.stringslite_Index_one s 46 w)
  rw [idx_one] at cX
  have hge := idx_ge (bl s)
  obtain ⟨A, hA⟩ : ∃ A, A = ba (headL (bl s)) := ⟨_, rfl⟩
  obtain ⟨T, hT⟩ : ∃ T, T = ba (tailL (bl s)) := ⟨_, rfl⟩
  rw [← hA, ← hT]
  by_cases h : 0 ≤ Lib.index (bl s) [46]
  · obtain ⟨i, hi⟩ : ∃ i : Nat, Lib.index (bl s) [46] = (i : Int) := ⟨(Lib.index (bl s) [46]).toNat, by omega⟩
    have hroom := Lib.index_room (bl s) [46] h
    rw [hi] at cX hroom
    simp only [List.length_cons, List.length_nil, bl_len] at hroom
    have hA2 : A = s.extract 0 i := by
      apply bl_inj
      rw [hA, bl_ba, bl_ext, headL, Lib.cut, if_pos h, hi]
      simp
    have hT2 : T = s.extract (i + 1) s.size := by
      apply bl_inj
      rw [hT, bl_ba, bl_ext, tailL, Lib.cut, if_pos h, hi]
      simp only [List.length_cons, List.length_nil, Int.toNat_natCast]
      rw [List.take_of_length_le (by rw [List.length_drop, bl_len]; omega)]
    have HA := Lib.hid hA2
    have HT := Lib.hid hT2
    have c1 : (0 : Int) ≤ ↑i := by omega
    have c2 : (↑i : Int) ≤ ↑s.size := by omega
    have c3 : (0 : Int) ≤ ↑i + 1 := by omega
    have c4 : (↑i + 1 : Int) ≤ ↑s.size := by omega
    have e1 : IntKind.i64.wrap ((i : Int) + 1) = (i : Int) + 1 := IntWalk.i64_in _ (by omega)
    have HW := Lib.hid (drewN_below w 1)
    clear h hge hi hA hT hA2 hT2 hroom
    go_enter Tryd.func34, Tryd.ntmps34
    go_wp2_with fail
    refine cX.out.mono ?_
    rintro e w' ⟨rfl, rfl⟩
    go_wp2_with fail
    have mixed : Tryd.prog.follows Departure.mixedOrders = true := by kernel_rfl
    go_region_o
    go_wp2
    go_ret3
    rw [HA.out, HT.out]
    exact ⟨true, rfl, HW.out⟩
  · have hA2 : A = s := by
      apply bl_inj
      rw [hA, bl_ba, headL, Lib.cut, if_neg h]
    have hT2 : T = ⟨#[]⟩ := by
      apply bl_inj
      rw [hT, bl_ba, tailL, Lib.cut, if_neg h]; rfl
    have hi : Lib.index (bl s) [46] = -1 := by omega
    rw [hi] at cX
    have HA := Lib.hid hA2
    have HT := Lib.hid hT2
    clear h hge hi hA hT hA2 hT2
    go_enter Tryd.func34, Tryd.ntmps34
    go_wp2_with fail
    refine cX.out.mono ?_
    rintro e w' ⟨rfl, rfl⟩
    go_wp2_with fail
    go_ret3
    rw [HA.out, HT.out]
    exact ⟨false, rfl, Below.refl _ _⟩
/-- strings.Cut at a dot -/
theorem cut_any (s : ByteArray) (hs : s.size ≤ 1000000) (w : World) : Calls Tryd.prog 28 #[.string s, .string ⟨#[46]⟩] w fun e w' => ∃ b, e = .returned (.tuple #[.string (ba (headL (bl s))), .string (ba (tailL (bl s))), .bool b]) ∧ Below w.heap.size w w' := by
  have cX := Lib.hid (liteCut_any s hs w)
  generalize ba (headL (bl s)) = A at cX
  generalize ba (tailL (bl s)) = T at cX
  go_enter Tryd.func28, Tryd.ntmps28
  go_wp2_with fail
  refine cX.out.mono ?_
  rintro e w' ⟨b, rfl, hb⟩
  go_wp2_with fail
  go_ret3
  exact ⟨_, rfl, hb⟩
end Go.Proofs.YtkjflpkokeckgaaDoor
