/-
  The program's digits of layer 3: from limbs to text, and the zeros at the front that bytes.TrimLeft strikes.
-/
import Derived.Test.YtbcoblpnihdhgaaDoorLmPlus
import Derived.Test.YtbcoblpnihdhgaaDoorNatA
import Derived.Lib.Strings
import Derived.Lib.SlTrimSet
set_option linter.unusedVariables false
set_option maxRecDepth 100000
namespace Go.Proofs.YtbcoblpnihdhgaaDoor
open Go.RowKit
namespace Lim
theorem B_ten (i : Nat) : B ^ i = 10 ^ (9 * i) := by rw [B_eq, show (1000000000 : Nat) = 10 ^ 9 from rfl, ← Nat.pow_mul]
/-- the digits of a number, the last one first -/
def dl (n L : Nat) : List Nat := (List.range L).map fun p => n / 10 ^ p % 10
theorem dl_len (n L : Nat) : (dl n L).length = L := by simp [dl]
theorem dl_get (n L p : Nat) (h : p < (dl n L).length) : (dl n L)[p] = n / 10 ^ p % 10 := by simp [dl]
theorem dl_small (n L : Nat) : ∀ d ∈ dl n L, d < 10 := fun d hd => by
  simp only [dl, List.mem_map] at hd
  obtain ⟨p, _, rfl⟩ := hd
  exact Nat.mod_lt _ (by omega)
theorem dl_val (n L : Nat) : Dec.valR (dl n L) = n % 10 ^ L := by
  induction L with
  | zero => simp [dl, Dec.valR, Nat.mod_one]
  | succ L ih =>
    have : dl n (L + 1) = dl n L ++ [n / 10 ^ L % 10] := by simp [dl, List.range_succ]
    rw [this, Dec.valR_snoc, ih, dl_len, Dec.mod_next]
theorem digit_at (n i j : Nat) (hj : j < 9) : pl n i / 10 ^ j % 10 = n / 10 ^ (9 * i + j) % 10 := by
  rw [pl, B_ten, Nat.pow_add, ← Nat.div_div_eq_div_mul]
  generalize n / 10 ^ (9 * i) = x
  rw [B_eq, show (1000000000 : Nat) = 10 ^ j * 10 ^ (9 - j) by rw [← Nat.pow_add, show j + (9 - j) = 9 by omega], Nat.mod_mul_right_div_self]
  exact Nat.mod_mod_of_dvd _ (Nat.dvd_of_pow_dvd (by omega : 1 ≤ 9 - j) (Nat.dvd_refl _) |> fun h => by simpa using h)
end Lim
theorem drop_zeros : ∀ (k : Nat) (R : List UInt8), k ≤ R.length → (∀ j (h : j < R.length), j < k → R[j] = 48) → Dec.val (R.drop k) = Dec.val R := by
  intro k
  induction k with
  | zero => intro R _ _; rw [List.drop_zero]
  | succ k ih =>
    intro R hk h
    rw [← ih R (by omega) (fun j hj hlt => h j hj (by omega)), List.drop_eq_getElem_cons (by omega : k < R.length), Dec.val_cons, h k (by omega) (by omega)]
    show _ = 0 * _ + _
    omega
theorem drop_digs {R : List UInt8} {k : Nat} (hk : k < R.length) (hd : Dec.AllD R) (h : ∀ j (h : j < R.length), j < k → R[j] = 48) (hz : R[k] ≠ 48) : R.drop k = Dec.digs (Dec.val R) := by
  rw [← drop_zeros k R (Nat.le_of_lt hk) h]
  refine (Dec.digs_val _ _ rfl ⟨by intro e; have := congrArg List.length e; simp at this; omega, fun b hb => hd b (List.mem_of_mem_drop hb), fun _ => ?_⟩).symm
  intro e
  rw [List.drop_eq_getElem_cons hk] at e
  simp only [List.head?_cons, Option.some.injEq] at e
  exact hz e
theorem some_nonzero {R : List UInt8} (hv : Dec.val R ≠ 0) : ∃ j, ∃ h : j < R.length, R[j] ≠ 48 := by
  apply Classical.byContradiction
  intro hn
  apply hv
  rw [← drop_zeros R.length R (Nat.le_refl _) (fun j h _ => Classical.byContradiction fun h' => hn ⟨j, h, h'⟩), List.drop_length]
  rfl
/-- a place behind the zeros at the front -/
structure Lead (R : List UInt8) (k : Nat) : Prop where
  lt : k < R.length
  zero : ∀ j (h : j < R.length), j < k → R[j] = 48
  not : R[k] ≠ 48
set_option maxHeartbeats 1000000 in
theorem trimLeftByte_any (G cap N : Nat) (R : List UInt8) (hN : N = R.length) (w : World) (hc : ∀ j (hj : j < R.length), w.cell? ⟨G, j, none⟩ = some (.int .u8 (R[j].toNat : Int))) (hcap : N ≤ cap) (hm : cap ≤ 100000000) (hne : ∃ j, ∃ h : j < R.length, R[j] ≠ 48) :
    Calls Tryd.prog 87 #[.slice (some ⟨G, 0, none⟩) N cap, .int .u8 48] w fun e w' => ∃ k r c', e = .returned (.slice (some ⟨G, k, none⟩) r c') ∧ k + r = N ∧ k + c' = cap ∧ Lead R k ∧ w = w' := by
  have HC := Lib.hid hc
  have HN := Lib.hid hne
  have EN := Lib.hid hN
  clear hc hne hN
  go_enter Tryd.func87, Tryd.ntmps87
  go_wp2_with fail
  go_loop [0] (fun v => ∃ k r c' : Nat, v = .slice (some ⟨G, k, none⟩) r c' ∧ k + r = N ∧ k + c' = cap ∧ Hid (∀ j (h : j < R.length), j < k → R[j] = 48)) (fun v => match v with | .slice _ n _ => n | _ => 0)
  case atStart => exact ⟨0, N, cap, rfl, by omega, by omega, Lib.hid (fun j h hj => absurd hj (by omega))⟩
  case round =>
    obtain ⟨k, r, c', rfl, hr, hc', hz⟩ := hrel
    have hk : k < N := by
      obtain ⟨j, hj, hj2⟩ := HN.out
      have hEN := EN.out
      rcases Nat.lt_or_ge k N with q | q
      · exact q
      · exact absurd (hz.out j hj (by omega)) hj2
    have hkR : k < R.length := by rw [← EN.out]; exact hk
    have hcell := HC.out k hkR
    obtain ⟨r', rfl⟩ : ∃ r', r = r' + 1 := ⟨r - 1, by omega⟩
    obtain ⟨x, hx⟩ : ∃ x, x = R[k].toNat := ⟨_, rfl⟩
    rw [← hx] at hcell
    by_cases e : R[k] = 48
    · have hx48 : x = 48 := by rw [hx, e]; rfl
      subst hx48
      have HE := Lib.hid e
      clear hx e
      have t1 : (1 : Int) ≤ ((r' + 1 : Nat) : Int) := by omega
      have t2 : ((r' + 1 : Nat) : Int) - 1 = (r' : Int) := by omega
      obtain ⟨c2, rfl⟩ : ∃ c2, c' = c2 + 1 := ⟨c' - 1, by omega⟩
      have t3 : ((c2 + 1 : Nat) : Int) - 1 = (c2 : Int) := by omega
      have t4 : ¬ c2 = 0 := by
        obtain ⟨j, hj, hj2⟩ := HN.out
        have hEN := EN.out
        have : k < j := by
          rcases Nat.lt_trichotomy j k with q | q | q
          · exact absurd (hz.out j hj q) hj2
          · subst q; exact absurd HE.out hj2
          · exact q
        omega
      go_wp2_with fail
      go_round
      case rel =>
        refine ⟨k + 1, r', c2, by simp, by omega, by omega, Lib.hid (fun j h hj => ?_)⟩
        rcases Nat.lt_or_ge j k with q | q
        · exact hz.out j h q
        · have : j = k := by omega
          subst this; exact HE.out
      case measure => simp
    · have e1 : ((x : Int) == 48) = false := by
        apply beq_eq_false_iff_ne.2
        intro h
        apply e
        apply UInt8.toNat_inj.1
        show R[k].toNat = 48
        omega
      have HE := Lib.hid e
      clear hx e
      go_wp2_with fail
      go_ret
      exact ⟨k, r' + 1, c', rfl, hr, hc', ⟨hkR, hz.out, HE.out⟩, rfl⟩
set_option maxHeartbeats 1000000 in
theorem trimLeft_by (c : ByteArray) (h1 : c.size = 1) (h0 : c[0]'(by rw [h1]; exact Nat.zero_lt_one) = 48) (G cap N : Nat) (R : List UInt8) (hN : N = R.length) (w : World) (hc : ∀ j (hj : j < R.length), w.cell? ⟨G, j, none⟩ = some (.int .u8 (R[j].toNat : Int))) (hcap : N ≤ cap) (hm : cap ≤ 100000000) (hne : ∃ j, ∃ h : j < R.length, R[j] ≠ 48) :
    Calls Tryd.prog 77 #[.slice (some ⟨G, 0, none⟩) N cap, .string c] w fun e w' => ∃ k r c', e = .returned (.slice (some ⟨G, k, none⟩) r c') ∧ k + r = N ∧ k + c' = cap ∧ Lead R k ∧ w = w' := by
  have hB := trimLeftByte_any G cap N R hN w hc hcap hm hne
  have n0 : ¬ N = 0 := by obtain ⟨j, h, _⟩ := hne; omega
  have HB := Lib.hid hB
  have n1 : ((N : Int) == 0) = false := beq_eq_false_iff_ne.2 (by omega)
  have hemp : c.toList.isEmpty = false := by
    rw [Lib.toList_data]
    cases h : c.data.toList with
    | nil => have := Lib.size_eq c; rw [h, List.length_nil] at this; omega
    | cons _ _ => rfl
  have n3 : ((c.size : Int) == 1) = true := by rw [h1]; rfl
  have n4 : 0 < c.size := by omega
  have n5 : (c.toList == []) = false := by
    cases hq : c.toList with
    | nil => rw [hq] at hemp; cases hemp
    | cons _ _ => rfl
  have n6 : (c[0]'n4).toNat = 48 := by rw [h0]; rfl
  have n7 : ¬ (128 : Int) ≤ 48 := by omega
  clear hB hc hne h0 hN
  clear h1
  go_enter Tryd.func77, Tryd.ntmps77
  go_wp2_with fail
  refine HB.out.mono ?_
  rintro e w' ⟨k, r, c', rfl, h1, h2, h3, rfl⟩
  have H3 := Lib.hid h3
  clear h3
  go_wp2_with fail
  go_ret
  exact ⟨k, r, c', rfl, h1, h2, H3.out, rfl⟩
theorem trimLeft_any (G cap N : Nat) (R : List UInt8) (hN : N = R.length) (w : World) (hc : ∀ j (hj : j < R.length), w.cell? ⟨G, j, none⟩ = some (.int .u8 (R[j].toNat : Int))) (hcap : N ≤ cap) (hm : cap ≤ 100000000) (hne : ∃ j, ∃ h : j < R.length, R[j] ≠ 48) :
    Calls Tryd.prog 77 #[.slice (some ⟨G, 0, none⟩) N cap, .string ⟨#[48]⟩] w fun e w' => ∃ k r c', e = .returned (.slice (some ⟨G, k, none⟩) r c') ∧ k + r = N ∧ k + c' = cap ∧ Lead R k ∧ w = w' :=
  trimLeft_by ⟨#[48]⟩ rfl rfl G cap N R hN w hc hcap hm hne
theorem trimLeft_none (a : Option Addr) (cap : Nat) (w : World) :
    Calls Tryd.prog 77 #[.slice a 0 cap, .string ⟨#[48]⟩] w fun e w' => e = .returned (.slice none 0 0) ∧ w = w' := by
  go_enter Tryd.func77, Tryd.ntmps77
  go_wp2_with fail
  go_ret
  exact ⟨rfl, rfl⟩
theorem numConvN (l : List UInt8) (b off : Nat) (n cap : Nat) (hn : n = l.length) (w : World) (h : ∀ j (hj : j < l.length), w.cell? ⟨b, off + j, none⟩ = some (.int .u8 (l[j].toNat : Int))) :
    (convert 101 22 (.slice (some ⟨b, off, none⟩) n cap)).run Tryd.prog w = .ok (.string ⟨l.toArray⟩) w := by
  subst hn
  rw [run_convert_bytes_string w 101 22 5 _ _ _ Tryd.underlying101 Tryd.underlying5 Tryd.underlying22]
  have hl := run_loadCells_list (P := Tryd.prog) w ⟨b, off, none⟩ (l.map fun c => Value.int .u8 (c.toNat : Int)) (by
    intro j v hj
    rw [List.getElem?_map] at hj
    have hlt : j < l.length := by
      rcases Nat.lt_or_ge j l.length with h' | h'
      · exact h'
      · rw [List.getElem?_eq_none h'] at hj; simp at hj
    rw [List.getElem?_eq_getElem hlt] at hj
    simp only [Option.map_some, Option.some.injEq] at hj
    subst hj
    have := h j hlt
    rw [show (⟨b, off, none⟩ : Addr).add j = ⟨b, off + j, none⟩ from by unfold Addr.add; split <;> simp_all]; exact this)
  rw [List.length_map] at hl
  have hr := run_bytesToString (P := Tryd.prog) w ⟨b, off, none⟩ l.length cap (l.map fun c => (c.toNat : Int)) (by rw [hl, List.map_map]; rfl)
  rw [hr, foldl_push, show ByteArray.empty.data ++ l.toArray = l.toArray from by simp]
/-- the row of the text while it is written -/
def TextAt (G L : Nat) (D : List Nat) (k : Nat) (w : World) : Prop := D.length = L ∧ w.ownsRow G 5 1 (.slice (some ⟨G, 0, none⟩) L L) L (numCells (outN D k))
theorem TextAt.cell {G L k : Nat} {D : List Nat} {w : World} (h : TextAt G L D k w) (hk : k ≤ L) (j : Nat) (hj : j < L) : w.cell? ⟨G, j, none⟩ = some (.int .u8 (((outN D k).getD j 0 : Nat) : Int)) := by
  rw [World.ownsRow.cellAt h.2 j (by omega)]
  have hlen : j < (outN D k).length := by rw [outN_length D k (by rw [h.1]; exact hk), h.1]; exact hj
  simp [numCells, List.getD, hlen]
theorem TextAt.frozen {G L k : Nat} {D : List Nat} {w : World} (h : TextAt G L D k w) (j : Nat) : w.frozen? ⟨G, j, none⟩ = false := World.ownsRow.frozenAt h.2 j
theorem TextAt.store {G L k : Nat} {D : List Nat} {w : World} (h : TextAt G L D k w) (hk : k < L) (j x : Nat) (hj : j = L - 1 - k) (hx : ∀ h : k < D.length, x = 48 + D[k]) : TextAt G L D (k + 1) (w.setCell ⟨G, j, none⟩ (.int .u8 (x : Int))) := by
  refine ⟨h.1, ?_⟩
  have hkD : k < D.length := by rw [h.1]; exact hk
  have := (World.ownsRow.stored h.2 j (.int .u8 (x : Int))).1
  rw [← outN_set D k hkD, h.1, ← hj, ← hx hkD]
  rw [show numCells ((outN D k).set j x) = (numCells (outN D k)).set j (.int .u8 (x : Int)) by simp [numCells, List.map_set]]
  exact this
theorem TextAt.done {G L : Nat} {D : List Nat} {w : World} (h : TextAt G L D L w) (hs : ∀ d ∈ D, d < 10) : ∃ R : List UInt8, R.length = L ∧ Dec.AllD R ∧ Dec.val R = Dec.valR D ∧ ∀ j (hj : j < R.length), w.cell? ⟨G, j, none⟩ = some (.int .u8 (R[j].toNat : Int)) := by
  have hI2 := h.2
  rw [← h.1, text_list D hs, h.1] at hI2
  obtain ⟨R, hR⟩ : ∃ R, R = (D.map fun d => UInt8.ofNat (48 + d)).reverse := ⟨_, rfl⟩
  have hl : R.length = L := by rw [hR]; simp [h.1]
  have hv : Dec.val R = Dec.valR D := by rw [hR]; exact Dec.val_reverse hs
  have ha : Dec.AllD R := by
    rw [hR]
    intro b hb
    simp only [List.mem_reverse, List.mem_map] at hb
    obtain ⟨d, hd, rfl⟩ := hb
    exact Dec.dig_isD (hs d hd)
  rw [← hR] at hI2
  clear hR
  refine ⟨R, hl, ha, hv, fun j hj => ?_⟩
  rw [World.ownsRow.cellAt hI2 j (by omega)]
  simp [hj]
theorem TextAt.lt {G L k : Nat} {D : List Nat} {w : World} (h : TextAt G L D k w) : G < w.heap.size := (World.ownsRow.lt h.2 G rfl).2
set_option maxHeartbeats 4000000 in
theorem digits_any (p : Nat → Prop) (n : Nat) (v : Value) (w : World) (h : IntsIn p w v (Lim.ls n)) (hl : Lim.nl n ≤ 100000) :
    Calls Tryd.prog 63 #[v] w fun e w' => e = .returned (.string (bx (Dec.digs n))) ∧ Below w.heap.size w w' := by
  obtain ⟨i0, hi, hz0, hz1, hz2⟩ := info_parts infoByte
  obtain ⟨a, ca, rfl, a1, a2, a3⟩ := h.open_
  have A3 := Lib.hid a3
  obtain ⟨na, hna⟩ : ∃ na, na = (Lim.ls n).length := ⟨_, rfl⟩
  rw [← hna] at a1 ⊢
  have ENA := Lib.hid hna
  have hmA : Hid (Lim.nl n = na) := Lib.hid hna.symm
  clear h a3 hna
  have hna2 : na ≤ 100000 := by rw [← hmA.out]; exact hl
  obtain ⟨L, hL⟩ : ∃ L, L = 9 * na := ⟨_, rfl⟩
  have HL := Lib.hid hL
  have hL2 : L ≤ 900000 := by omega
  obtain ⟨D, hD⟩ : ∃ D, D = Lim.dl n L := ⟨_, rfl⟩
  have hDl : D.length = L := by rw [hD, Lim.dl_len]
  have HD := Lib.hid hD
  have HDL := Lib.hid hDl
  have i2 : (9 : Int) * (na : Int) = (L : Int) := by omega
  have i3 : IntKind.i64.wrap (L : Int) = (L : Int) := IntWalk.i64_in _ (by omega)
  clear hL hD hDl
  go_enter Tryd.func63, Tryd.ntmps63
  go_wp2_with (at_make; refine wpList_make_full _ rfl _ _ 101 rfl w.heap.size 5 i0 (.int .u8 0) 1 Tryd.underlying101 hi hz0 hz1 _ _ _ _ L rfl rfl (by first | rfl | omega) (by first | rfl | omega) (by rw [hz2]; omega) (by unfold maxLen; omega) (Nat.le_refl _) ?_)
  intro w1 hown hgrow
  have hB1 : Below w.heap.size w w1 := (Below.refl _ _).grown hgrow (Nat.le_refl _) (fun k h => by cases h)
  obtain ⟨G, hG⟩ : ∃ G, G = w.heap.size := ⟨_, rfl⟩
  have hT1 : Hid (TextAt G L D 0 w1) := Lib.hid ⟨HDL.out, by
    have e : (madeCells #[Value.int .u8 0] L).toList = numCells (outN D 0) := by
      rw [toList_madeCells_one, outN_zero, HDL.out]
      simp [numCells]
    rw [← e, hG]; exact hown⟩
  have HGW : Hid (w.heap.size ≤ G) := Lib.hid (Nat.le_of_eq hG.symm)
  clear hown hgrow
  go_wp2_with fail
  simp only [← hG]
  clear hG
  go_loopw [13] (fun ii wr => ∃ i : Nat, i ≤ na ∧ ii = .int .i64 (i : Int) ∧ Hid (TextAt G L D (9 * i) wr) ∧ Hid (Below w.heap.size w wr)) (fun ii _ => na - (intOf ii).toNat)
  case atStart => exact ⟨0, by omega, rfl, hT1, Lib.hid hB1⟩
  case round =>
    clear hT1 hB1
    obtain ⟨i, hi, rfl, hT, hB⟩ := hrel
    by_cases hlt : i < na
    · obtain ⟨ba, oa, rfl, _, hca⟩ := A3.out (by rw [← ENA.out]; omega)
      have hca1 := hca i (by rw [← ENA.out]; omega)
      rw [Lim.pl_ls] at hca1
      have hcx := hB.out.cell (p := ⟨ba, oa + i, none⟩) (cell_lt hca1)
      rw [hca1] at hcx
      obtain ⟨x, hx⟩ : ∃ x, x = Lim.pl n i := ⟨_, rfl⟩
      have hx9 := Lim.pl_lt n i
      rw [← hx] at hcx hx9
      rw [Lim.B_eq] at hx9
      have HX := Lib.hid hx
      have hib : (i : Int) < (na : Int) := by omega
      have e5 : IntKind.i64.wrap ((i : Int) + 1) = (i : Int) + 1 := IntWalk.i64_in _ (by omega)
      clear hca hca1 hx
      go_wp2_with fail
      go_loopw [18, 5] (fun jj ll wr => ∃ j y : Nat, j ≤ 9 ∧ jj = .int .i64 (j : Int) ∧ ll = .int .i64 (y : Int) ∧ Hid (y = x / 10 ^ j) ∧ y ≤ 999999999 ∧ Hid (TextAt G L D (9 * i + j) wr) ∧ Hid (Below w.heap.size w wr)) (fun jj _ _ => 9 - (intOf jj).toNat)
      case atStart => exact ⟨0, x, by omega, rfl, rfl, Lib.hid (by simp), by omega, hT, hB⟩
      case round =>
        clear hT hB hcx
        obtain ⟨j, y, hj, rfl, rfl, hy, hyb, hT, hB⟩ := hrel
        by_cases hlt2 : j < 9
        · obtain ⟨k, hk⟩ : ∃ k, k = L - 1 - (9 * i + j) := ⟨_, rfl⟩
          have hkL : 9 * i + j < L := by have := HL.out; omega
          obtain ⟨d, hd⟩ : ∃ d, d = y % 10 := ⟨_, rfl⟩
          obtain ⟨q, hq⟩ : ∃ q, q = y / 10 := ⟨_, rfl⟩
          obtain ⟨b, hb⟩ : ∃ b, b = 48 + d := ⟨_, rfl⟩
          have hd10 : d < 10 := by rw [hd]; exact Nat.mod_lt _ (by omega)
          have f1 : IntKind.i64.wrap ((L : Int) - 1) = (L : Int) - 1 := IntWalk.i64_in _ (by omega)
          have f2 : IntKind.i64.wrap ((9 : Int) * (i : Int)) = 9 * (i : Int) := IntWalk.i64_in _ (by omega)
          have f3 : IntKind.i64.wrap ((L : Int) - 1 - 9 * (i : Int)) = (L : Int) - 1 - 9 * (i : Int) := IntWalk.i64_in _ (by omega)
          have f4 : IntKind.i64.wrap ((L : Int) - 1 - 9 * (i : Int) - (j : Int)) = (k : Int) := by rw [IntWalk.i64_in _ (by omega)]; omega
          have r1 : ((y : Int)).tmod 10 = (d : Int) := by rw [Int.tmod_eq_emod_of_nonneg (by omega)]; omega
          have r2 : ((y : Int)).tdiv 10 = (q : Int) := by rw [Int.tdiv_eq_ediv_of_nonneg (by omega)]; omega
          have f5 : IntKind.i64.wrap (d : Int) = (d : Int) := IntWalk.i64_in _ (by omega)
          have f6 : (48 : Int) + (d : Int) = (b : Int) := by omega
          have f7 : IntKind.i64.wrap (b : Int) = (b : Int) := IntWalk.i64_in _ (by omega)
          have f8 : IntKind.u8.wrap (b : Int) = (b : Int) := by simp [IntKind.wrap, IntKind.bits, IntKind.signed]; omega
          have f9 : IntKind.i64.wrap (q : Int) = (q : Int) := IntWalk.i64_in _ (by omega)
          have f10 : IntKind.i64.wrap ((j : Int) + 1) = (j : Int) + 1 := IntWalk.i64_in _ (by omega)
          have hkL2 : (k : Int) < (L : Int) := by omega
          have hkL3 : k < L := by omega
          have hcs := hT.out.cell (by omega) k hkL3
          have hfz := hT.out.frozen k
          generalize (outN D (9 * i + j)).getD k 0 = s0 at hcs
          have HDG : Hid (∀ h : 9 * i + j < D.length, b = 48 + D[9 * i + j]) := Lib.hid (fun h => by
            rw [hb, hd, hy.out, HX.out, Lim.digit_at n i j hlt2]
            simp only [HD.out, Lim.dl_get])
          have HQ : Hid (q = x / 10 ^ (j + 1)) := Lib.hid (by rw [hq, hy.out, Nat.pow_succ, Nat.div_div_eq_div_mul])
          have HK := Lib.hid hk
          have hq9 : q ≤ 999999999 := by omega
          clear hk hd hq hb
          go_wp2_with fail
          refine ⟨⟨j + 1, q, by omega, by simp, rfl, HQ, hq9, Lib.hid ?_, Lib.hid (hB.out.setCell (p := ⟨G, k, none⟩) HGW.out _)⟩, by simp [intOf]; omega⟩
          exact hT.out.store hkL k b HK.out HDG.out
        · obtain rfl : j = 9 := by omega
          go_wp2_with fail
          exact ⟨⟨i + 1, by omega, by simp, by rw [show 9 * (i + 1) = 9 * i + 9 by omega]; exact hT, hB⟩, by simp [intOf]; omega⟩
    · obtain rfl : na = i := by omega
      have hT2 : TextAt G L D L wr := by have := hT.out; rwa [← HL.out] at this
      obtain ⟨R, hR1, hR2, hR3, hR4⟩ := hT2.done (by rw [HD.out]; exact Lim.dl_small n L)
      have hvR : Dec.val R = n := by
        rw [hR3, HD.out, Lim.dl_val, Nat.mod_eq_of_lt]
        have := Lim.nl_lt n
        rw [hmA.out, Lim.B_ten, ← HL.out] at this
        exact this
      have H1 := Lib.hid hR1
      have H2 := Lib.hid hR2
      have H4 := Lib.hid hR4
      have HV := Lib.hid hvR
      clear hT2 hR1 hR2 hR3 hR4 hvR hT
      by_cases h0 : na = 0
      · have hL0 : L = 0 := by have := HL.out; omega
        have hn0 : n = 0 := by
          apply Classical.byContradiction
          intro hne
          have := Lim.nl_pos.2 hne
          rw [hmA.out] at this
          omega
        subst hL0
        go_wp2_with fail
        refine (trimLeft_none _ _ _).mono ?_
        rintro e w5 ⟨rfl, rfl⟩
        go_wp2_with fail
        go_ret
        refine ⟨?_, hB.out⟩
        rw [hn0, Dec.digs_small (by omega)]
        rfl
      · have hn0 : n ≠ 0 := by
          intro e
          have := hmA.out
          rw [e, Lim.nl_zero] at this
          omega
        have hsn := some_nonzero (R := R) (by rw [HV.out]; exact hn0)
        go_wp2_with fail
        refine (trimLeft_any G L L R H1.out.symm _ H4.out (Nat.le_refl _) (by omega) hsn).mono ?_
        rintro e w5 ⟨k, r, c', rfl, hr, hc', hz, rfl⟩
        have hk := hz.lt
        have hdr := drop_digs hk H2.out hz.zero hz.not
        rw [HV.out] at hdr
        have hlen : r = (R.drop k).length := by rw [List.length_drop, H1.out]; omega
        have hr0 : ((r : Int) == 0) = false := beq_eq_false_iff_ne.2 (by rw [H1.out] at hk; omega)
        have hr1 : ¬ r = 0 := by rw [H1.out] at hk; omega
        have hcv := numConvN (R.drop k) G k r c' hlen wr (fun j hj => by
          rw [List.length_drop] at hj
          rw [H4.out (k + j) (by omega), List.getElem_drop])
        rw [hdr] at hcv
        have HC := Lib.hid hcv
        clear hz hdr hlen hsn hcv hk
        go_wp2_with fail
        rw [HC.out]
        go_wp2_with fail
        go_ret
        exact ⟨rfl, hB.out⟩
end Go.Proofs.YtbcoblpnihdhgaaDoor
