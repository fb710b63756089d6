/-
  The reference's division of layer 3, digit by digit.
-/
import Derived.Test.YtfkdhkbegfbkaaaDoorNatVal
import Derived.Laws.DeepStrings4
set_option linter.unusedVariables false
set_option maxRecDepth 100000
namespace Go.Proofs.YtfkdhkbegfbkaaaDoor
open Go.RowKit
/-- the text of a number -/
def nS (n : Nat) : ByteArray := bx (Dec.digs n)
theorem tl_nS (n : Nat) : tl (nS n) = Dec.digs n := tl_bx _
theorem val_nS (n : Nat) : Dec.val (tl (nS n)) = n := by rw [tl_nS, Dec.val_digs]
theorem nS_norm (n : Nat) : Dec.Norm (tl (nS n)) := by rw [tl_nS]; exact Dec.digs_norm n
theorem nS_size {n k : Nat} (hk : 1 ≤ k) : (nS n).size ≤ k ↔ n < 10 ^ k := by unfold nS; rw [bx_size]; exact Dec.digs_len_le hk
theorem nS_pos (n : Nat) : 0 < (nS n).size := by unfold nS; rw [bx_size]; exact Dec.digs_len_pos n
theorem nS_of {s : ByteArray} (h : validB s = true) : s = nS (Dec.val (tl s)) := validB_digs h
theorem div_next {A b d : Nat} (hb : 0 < b) : (A * 10 + d) / b = A / b * 10 + (A % b * 10 + d) / b ∧ (A * 10 + d) % b = (A % b * 10 + d) % b := by
  have h := Nat.div_add_mod A b
  have e : A * 10 + d = b * (A / b * 10) + (A % b * 10 + d) := by
    rw [← Nat.mul_assoc]
    have : (b * (A / b) + A % b) * 10 = A * 10 := by rw [h]
    rw [Nat.add_mul] at this
    omega
  rw [e]
  exact ⟨Nat.mul_add_div hb _ _, Nat.mul_add_mod _ _ _⟩
theorem ten_more {v k : Nat} (h : v < 10 ^ k) : v * 10 < 10 ^ (k + 1) := by rw [Nat.pow_succ]; exact Nat.mul_lt_mul_of_pos_right h (by omega)
theorem nS_ten {V k : Nat} (h : V < 10 ^ k) : ∀ y, y < V * 10 → (nS y).size ≤ k + 1 := fun y hy => (nS_size (by omega)).2 (Nat.lt_trans hy (ten_more h))
theorem tl_one (s : ByteArray) (k : Nat) (h : k < s.size) : s.extract k (k + 1) = bx [s[k]] := by
  apply tl_inj
  rw [tl_bx]
  simp only [tl, ByteArray.data_extract, Array.toList_extract]
  rw [List.extract_eq_take_drop]
  have e : (s.data.toList).drop k = s[k] :: (s.data.toList).drop (k + 1) := by
    have := List.drop_eq_getElem_cons (l := tl s) (i := k) (by rw [tl_length]; exact h)
    rw [tl_get s k h] at this
    exact this
  rw [e, show k + 1 - k = 1 by omega]
  rfl
theorem nS_ten_of {t : ByteArray} {k : Nat} (hd : Dec.AllD (tl t)) (ht : t.size ≤ k) : ∀ y, y < Dec.val (tl t) * 10 → (nS y).size ≤ k + 1 := nS_ten (val_bound hd ht)
theorem run_cut1 (s : ByteArray) (k : Nat) (w : World) (h : k < s.size) : Sem.run Tryd.prog (Instr.slice 9 (.string s) (some (.int .i64 (k : Int))) (some (.int .i64 ((k : Int) + 1))) none) w = .ok (.string (bx [s[k]])) w := by
  rw [run_slice_string_if (P := Tryd.prog) w 9 s .i64 .i64 (k : Int) ((k : Int) + 1) Tryd.underlying9]
  rw [if_pos ⟨by omega, by omega⟩, if_pos ⟨by omega, by omega⟩]
  rw [show ((k : Int) + 1).toNat = k + 1 by omega, Int.toNat_natCast, tl_one s k h]
theorem digCut (w : World) (n : Nat) (h : n < 10) : (Instr.slice 9 (.string ⟨#[48, 49, 50, 51, 52, 53, 54, 55, 56, 57]⟩) (some (.int .i64 (n : Nat))) (some (.int .i64 ((n : Nat) + 1))) none).run Tryd.prog w = .ok (.string (bx [UInt8.ofNat (48 + n)])) w := by
  match n, h with
  | 0, _ => rfl
  | 1, _ => rfl
  | 2, _ => rfl
  | 3, _ => rfl
  | 4, _ => rfl
  | 5, _ => rfl
  | 6, _ => rfl
  | 7, _ => rfl
  | 8, _ => rfl
  | 9, _ => rfl
  | n + 10, h => exact absurd h (by omega)
theorem bx_cat (l m : List UInt8) : bx l ++ bx m = bx (l ++ m) := by
  apply tl_inj
  rw [tl_bx]
  simp [tl, bx]
theorem refless_num (x : Nat) (t : ByteArray) (w : World) (ht : Dec.Norm (tl t)) :
    Calls Tryd.prog 37 #[.string (nS x), .string t] w fun e w' => e = .returned (.bool (decide (x < Dec.val (tl t)))) ∧ w = w' := by
  have := refless_any (nS x) t w
  rwa [Dec.lessL_val (nS_norm x) ht, val_nS] at this
theorem refsub_num (x : Nat) (t : ByteArray) (w : World) (hx : (nS x).size ≤ 549755813888) (ht : t.size ≤ 549755813888) (hd : Dec.AllD (tl t)) (h : Dec.val (tl t) ≤ x) :
    Calls Tryd.prog 38 #[.string (nS x), .string t] w fun e w' => e = .returned (.string (nS (x - Dec.val (tl t)))) ∧ Below w.heap.size w w' := by
  have := refsub_any (nS x) t w (nS_pos x) hx ht (nS_norm x).all hd (by rw [val_nS]; exact h)
  rw [val_nS] at this
  exact this
theorem reftrim_num (l : List UInt8) (w : World) (h0 : l ≠ []) (hl : l.length ≤ 1099511627776) (hd : Dec.AllD l) :
    Calls Tryd.prog 61 #[.string (bx l)] w fun e w' => e = .returned (.string (nS (Dec.val l))) ∧ w = w' := by
  have := reftrim_any (bx l) w (by rw [bx_size]; exact hl) (by rw [bx_size]; exact List.length_pos_iff.2 h0) (by rw [tl_bx]; exact hd)
  rw [tl_bx] at this
  exact this
set_option maxHeartbeats 4000000 in
theorem refdiv_any (s t : ByteArray) (w : World) (hs : Dec.Norm (tl s)) (hsl : s.size ≤ 1000) (ht : Dec.Norm (tl t)) (htl : t.size ≤ 1000) (h0 : 0 < Dec.val (tl t)) :
    Calls Tryd.prog 44 #[.string s, .string t] w fun e w' => e = .returned (.tuple #[.string (nS (Dec.val (tl s) / Dec.val (tl t))), .string (nS (Dec.val (tl s) % Dec.val (tl t)))]) ∧ Below w.heap.size w w' := by
  have HS := Lib.hid hs
  have HT := Lib.hid ht
  obtain ⟨V, hV⟩ : ∃ V, V = Dec.val (tl t) := ⟨_, rfl⟩
  have hVb : Hid (∀ y, y < V * 10 → (nS y).size ≤ 1001) := Lib.hid (hV ▸ nS_ten_of ht.all htl)
  rw [← hV]
  rw [← hV] at h0
  have HV := Lib.hid hV
  have hz : nS 0 = ⟨#[48]⟩ := by unfold nS; rw [Dec.digs_small (by omega)]; rfl
  have HZ := Lib.hid hz
  have hs0 : 0 < s.size := by rw [← tl_length]; exact List.length_pos_iff.2 hs.ne
  clear hs ht hV hz
  go_enter Tryd.func44, Tryd.ntmps44
  go_wp2_with fail
  go_loopw [6, 7, 8] (fun qv rv ii wr => ∃ (k : Nat) (Q : List UInt8), k ≤ s.size ∧ ii = .int .i64 (k : Int) ∧ qv = .string (bx Q) ∧ rv = .string (nS (Dec.val ((tl s).take k) % V)) ∧ Q.length = k ∧ Hid (Dec.AllD Q) ∧ Hid (Dec.val Q = Dec.val ((tl s).take k) / V) ∧ Below w.heap.size w wr) (fun _ _ ii _ => s.size - (intOf ii).toNat)
  case atStart => exact ⟨0, [], by omega, rfl, rfl, by rw [List.take_zero, Dec.val_nil, Nat.zero_mod, HZ.out], rfl, Lib.hid Dec.AllD.nil, Lib.hid (by rw [List.take_zero, Dec.val_nil, Nat.zero_div]), Below.refl _ _⟩
  case round =>
    obtain ⟨k, Q, hk, rfl, rfl, rfl, hQl, hQ, hQv, hB⟩ := hrel
    by_cases hlt : k < s.size
    · obtain ⟨A, hA⟩ : ∃ A, A = Dec.val ((tl s).take k) := ⟨_, rfl⟩
      rw [← hA] at hQv
      rw [← hA]
      have htk : Dec.val ((tl s).take (k + 1)) = A * 10 + Dec.dv s[k] := by
        rw [List.take_succ_eq_append_getElem (by rw [tl_length]; exact hlt), tl_get s k hlt, Dec.val_snoc, hA]
      obtain ⟨x, hx⟩ : ∃ x, x = A % V := ⟨_, rfl⟩
      rw [← hx]
      have hdk : Dec.isD s[k] = true := HS.out.all _ (by rw [← tl_get s k hlt]; exact List.getElem_mem _)
      have hd10 := Dec.dv_lt hdk
      have hone := fun w => run_cut1 s k w hlt
      have w4 : IntKind.i64.wrap ((k : Int) + 1) = (k : Int) + 1 := IntWalk.i64_in _ (by omega)
      obtain ⟨r, hr⟩ : ∃ r, r = x * 10 + Dec.dv s[k] := ⟨_, rfl⟩
      have hxV : x < V := by rw [hx]; exact Nat.mod_lt _ h0
      have hrV : r < V * 10 := by omega
      have hdiv := div_next (A := A) (d := Dec.dv s[k]) h0
      rw [← hx, ← hr] at hdiv
      have hcat : nS x ++ bx [s[k]] = bx (Dec.digs x ++ [s[k]]) := bx_cat _ _
      have hxs : (nS x).size ≤ 1001 := hVb.out x (by omega)
      have hcs : (bx [s[k]]).size = 1 := by rw [bx_size]; rfl
      have hvl : Dec.val (Dec.digs x ++ [s[k]]) = r := by rw [Dec.val_snoc, Dec.val_digs, hr]
      have hll : (Dec.digs x ++ [s[k]]).length ≤ 1099511627776 := by
        have : (nS x).size = (Dec.digs x).length := by unfold nS; exact bx_size _
        simp only [List.length_append, List.length_singleton]; omega
      have HCS := Lib.hid hcs
      have HXS := Lib.hid hxs
      have HVL := Lib.hid hvl
      have HLL := Lib.hid hll
      have HALL : Hid (Dec.AllD (Dec.digs x ++ [s[k]])) := Lib.hid ((Dec.digs_all x).append (Dec.AllD.one hdk))
      have HTK := Lib.hid htk
      have HDIV := Lib.hid hdiv
      have noov : ¬ (9223372036854775807 < (nS x).size + (bx [s[k]]).size) := by omega
      have noov2 : ¬ ((9223372036854775807 : Int) < ((nS x).size : Int) + ((bx [s[k]]).size : Int)) := by omega
      clear hcs hxs hvl hll htk hdiv hr hx hA
      go_wp2_with fail
      refine (reftrim_num _ _ (by simp) HLL.out HALL.out).mono ?_
      rintro e wz ⟨rfl, rfl⟩
      rw [HVL.out]
      clear hcat noov noov2 hone HXS HCS HVL HLL HALL
      go_wp2_with fail
      go_loopw [7, 9] (fun rv nv wq => ∃ n : Nat, nv = .int .i64 (n : Int) ∧ rv = .string (nS (r - n * V)) ∧ n ≤ 9 ∧ n * V ≤ r ∧ Below w.heap.size w wq) (fun _ nv _ => 10 - (intOf nv).toNat)
      case atStart => exact ⟨0, rfl, by rw [Nat.zero_mul, Nat.sub_zero], by omega, by rw [Nat.zero_mul]; omega, hB⟩
      case round =>
        obtain ⟨n, rfl, rfl, hn9, hnV, hB2⟩ := hrel
        obtain ⟨y, hy⟩ : ∃ y, y = r - n * V := ⟨_, rfl⟩
        rw [← hy]
        by_cases hlt2 : y < V
        · have hq : r / V = n := by
            rw [Nat.div_eq_iff h0]
            constructor
            · omega
            · have : n * V + V - 1 = n * V + V - 1 := rfl
              omega
          have hm : r % V = y := by
            have h1 := Nat.div_add_mod r V
            rw [hq, Nat.mul_comm] at h1
            omega
          obtain ⟨o, ho⟩ : ∃ o, o = UInt8.ofNat (48 + n) := ⟨_, rfl⟩
          have hcut2 := fun w => digCut w n (by omega)
          have hoD : Dec.isD o = true := by rw [ho]; exact Dec.dig_isD (by omega)
          have hoV : Dec.dv o = n := by rw [ho]; exact Dec.dig_dv (by omega)
          rw [← ho] at hcut2
          have hcat2 : bx Q ++ bx [o] = bx (Q ++ [o]) := bx_cat _ _
          have hqs : (bx Q).size = k := by rw [bx_size]; exact hQl
          have hos : (bx [o]).size = 1 := by rw [bx_size]; rfl
          have noov : ¬ (9223372036854775807 < (bx Q).size + (bx [o]).size) := by omega
          have w5 : IntKind.i64.wrap ((n : Int) + 1) = (n : Int) + 1 := IntWalk.i64_in _ (by omega)
          have hQ' : Hid (Dec.AllD (Q ++ [o])) := Lib.hid (hQ.out.append (Dec.AllD.one hoD))
          have hv' : Hid (Dec.val (Q ++ [o]) = Dec.val ((tl s).take (k + 1)) / V) := Lib.hid (by rw [Dec.val_snoc, hoV, hQv.out, HTK.out, HDIV.out.1, hq])
          have hr' : Hid (nS y = nS (Dec.val ((tl s).take (k + 1)) % V)) := Lib.hid (by rw [HTK.out, HDIV.out.2, hm])
          have tlt : decide (y < V) = true := decide_eq_true hlt2
          have TLT := Lib.hid tlt
          clear hqs hos tlt hq hm hy ho
          go_wp2_with fail
          refine (refless_num y t _ HT.out).mono ?_
          rintro e wz ⟨rfl, rfl⟩
          rw [← HV.out, TLT.out]
          go_wp2_with fail
          exact ⟨⟨k + 1, Q ++ [o], by omega, by go_num, by first | rfl | rw [bx_cat], by rw [hr'.out], by simp [hQl], hQ', hv', hB2⟩, by simp [intOf]; omega⟩
        · have tlt : decide (y < V) = false := decide_eq_false hlt2
          have TLT := Lib.hid tlt
          have hys : (nS y).size ≤ 549755813888 := by have := hVb.out y (by omega); omega
          have HYS := Lib.hid hys
          have hn1 : (n + 1) * V ≤ r := by rw [Nat.add_mul, Nat.one_mul]; omega
          have hn2 : n + 1 ≤ 9 := by
            rcases Nat.lt_or_ge 9 (n + 1) with h | h
            · exfalso
              have : 10 * V ≤ (n + 1) * V := Nat.mul_le_mul_right V h
              omega
            · exact h
          have hy' : Hid (y - V = r - (n + 1) * V) := Lib.hid (by rw [Nat.add_mul, Nat.one_mul]; omega)
          have HTLE : Hid (V ≤ y) := Lib.hid (by omega)
          have w5 : IntKind.i64.wrap ((n : Int) + 1) = (n : Int) + 1 := IntWalk.i64_in _ (by omega)
          clear tlt hys hy
          go_wp2_with fail
          refine (refless_num y t _ HT.out).mono ?_
          rintro e wz ⟨rfl, rfl⟩
          rw [← HV.out, TLT.out]
          go_wp2_with fail
          refine (refsub_num y t _ HYS.out (by omega) HT.out.all (HV.out ▸ HTLE.out)).mono ?_
          rintro e wz ⟨rfl, hbz⟩
          rw [← HV.out]
          have hB3 := hB2.trans (hbz.mono hB2.size)
          go_wp2_with fail
          go_roundw
          case rel => exact ⟨n + 1, by go_num, by rw [hy'.out], hn2, hn1, hB3⟩
          case measure => simp [intOf]; omega
    · obtain rfl : k = s.size := by omega
      have htk : (tl s).take s.size = tl s := List.take_of_length_le (by rw [tl_length]; exact Nat.le_refl _)
      rw [htk] at hQv ⊢
      have hqn : Q ≠ [] := by intro e; subst e; simp at hQl; omega
      have HQN := Lib.hid hqn
      have HQL : Hid (Q.length ≤ 1099511627776) := Lib.hid (by omega)
      clear htk hqn hQl
      go_wp2_with fail
      refine (reftrim_num Q _ HQN.out HQL.out hQ.out).mono ?_
      rintro e wz ⟨rfl, rfl⟩
      rw [hQv.out]
      go_wp2_with fail
      go_ret2
      exact ⟨rfl, hB⟩
end Go.Proofs.YtfkdhkbegfbkaaaDoor
