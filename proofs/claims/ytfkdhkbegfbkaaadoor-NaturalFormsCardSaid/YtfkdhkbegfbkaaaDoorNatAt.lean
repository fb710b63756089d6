/-
  The reference's small functions of layer 3: the digit at a place, leading zeros struck, digits to text.
-/
import Derived.Test.YtfkdhkbegfbkaaaDoorNatArith
import Derived.Test.YtfkdhkbegfbkaaaDoorProg
import Derived.WalkKit
import Derived.Below
import Derived.Lib.Walk
import Derived.Lib.Hide
import Derived.WalkLawsBesides
import Derived.Lib.Builder
import Derived.Outline
import Derived.WalkSmall
set_option linter.unusedVariables false
namespace Go.Proofs.YtfkdhkbegfbkaaaDoor
open Go.RowKit
/-- the bytes of a text -/
def tl (s : ByteArray) : List UInt8 := s.data.toList
theorem tl_length (s : ByteArray) : (tl s).length = s.size := by simp [tl]
theorem tl_get (s : ByteArray) (k : Nat) (h : k < s.size) : (tl s)[k]'(by rw [tl_length]; exact h) = s[k] := by simp [tl]; rfl
/-- the text of digits -/
def bx (l : List UInt8) : ByteArray := ⟨l.toArray⟩
theorem tl_bx (l : List UInt8) : tl (bx l) = l := by simp [tl, bx]
theorem bx_tl (s : ByteArray) : bx (tl s) = s := by apply ByteArray.ext; simp [tl, bx]
theorem bx_size (l : List UInt8) : (bx l).size = l.length := by rw [← tl_length, tl_bx]
theorem tl_inj {s t : ByteArray} (h : tl s = tl t) : s = t := by rw [← bx_tl s, ← bx_tl t, h]
set_option maxHeartbeats 400000 in
theorem refat_in (s : ByteArray) (p : Nat) (w : World) (hs : s.size ≤ 1099511627776) (hd : Dec.AllD (tl s)) (hp : p < s.size) :
    Calls Tryd.prog 53 #[.string s, .int .i64 (p : Int)] w fun e w' => e = .returned (.int .i64 (Dec.place (tl s) p : Nat)) ∧ w = w' := by
  obtain ⟨k, hk⟩ : ∃ k, k = s.size - 1 - p := ⟨_, rfl⟩
  have hkl : k < s.size := by omega
  have e0 : Dec.place (tl s) p = Dec.dv s[k] := by
    rw [Dec.place_in hd (by rw [tl_length]; exact hp)]
    congr 1
    rw [← tl_get s k hkl]
    congr 1
    rw [tl_length]; omega
  have hb := (Dec.isD_iff s[k]).1 (hd _ (by rw [← tl_get s k hkl]; exact List.getElem_mem _))
  have i1 : IntKind.i64.wrap ((s.size : Int) - 1) = (s.size : Int) - 1 := IntWalk.i64_in _ (by omega)
  have i2 : IntKind.i64.wrap ((s.size : Int) - 1 - (p : Int)) = (k : Int) := by rw [IntWalk.i64_in _ (by omega)]; omega
  have HE := Lib.hid e0
  have t1 : decide ((s.size : Int) ≤ (p : Int)) = false := decide_eq_false (by omega)
  have t2 : decide (s.size ≤ p) = false := decide_eq_false (by omega)
  clear e0 hd hk
  go_enter Tryd.func53, Tryd.ntmps53
  go_wp2_with fail
  go_ret
  refine ⟨?_, rfl⟩
  rw [HE.out]
  show Ending.returned (Value.int .i64 ((s[k].toNat : Int) - 48)) = _
  congr 2
  unfold Dec.dv
  omega
set_option maxHeartbeats 400000 in
theorem refat_out (s : ByteArray) (p : Nat) (w : World) (hp : s.size ≤ p) :
    Calls Tryd.prog 53 #[.string s, .int .i64 (p : Int)] w fun e w' => e = .returned (.int .i64 0) ∧ w = w' := by
  have t1 : decide ((s.size : Int) ≤ (p : Int)) = true := decide_eq_true (by omega)
  have t2 : decide (s.size ≤ p) = true := decide_eq_true hp
  go_enter Tryd.func53, Tryd.ntmps53
  go_wp2_with fail
  go_ret
  exact ⟨rfl, rfl⟩
theorem refat_any (s : ByteArray) (p : Nat) (w : World) (hs : s.size ≤ 1099511627776) (hd : Dec.AllD (tl s)) :
    Calls Tryd.prog 53 #[.string s, .int .i64 (p : Int)] w fun e w' => e = .returned (.int .i64 (Dec.place (tl s) p : Nat)) ∧ w = w' := by
  by_cases hp : p < s.size
  · exact refat_in s p w hs hd hp
  · rw [Dec.place_out hd (by rw [tl_length]; omega)]
    exact refat_out s p w (by omega)
theorem tl_extract (s : ByteArray) (k : Nat) : tl (s.extract k s.size) = (tl s).drop k := by
  simp only [tl, ByteArray.data_extract, Array.toList_extract]
  rw [List.extract_eq_take_drop, List.take_of_length_le (by simp)]
theorem trim_end {s : ByteArray} {k : Nat} (hd : Dec.AllD (tl s)) (hk : k < s.size) (hv : Dec.val ((tl s).drop k) = Dec.val (tl s)) (h : k + 1 < s.size → s[k] ≠ 48) : s.extract k s.size = bx (Dec.digs (Dec.val (tl s))) := by
  apply tl_inj
  rw [tl_extract, tl_bx, ← hv]
  have hdr : (tl s).drop k = s[k] :: (tl s).drop (k + 1) := by
    rw [List.drop_eq_getElem_cons (by rw [tl_length]; exact hk), tl_get s k hk]
  refine (Dec.digs_val _ _ rfl ⟨by rw [hdr]; simp, fun b hb => hd b (List.mem_of_mem_drop hb), fun h1 => ?_⟩).symm
  rw [hdr]
  rw [List.length_drop, tl_length] at h1
  simpa using h (by omega)
set_option maxHeartbeats 400000 in
theorem reftrim_any (s : ByteArray) (w : World) (hs : s.size ≤ 1099511627776) (h0 : 0 < s.size) (hd : Dec.AllD (tl s)) :
    Calls Tryd.prog 61 #[.string s] w fun e w' => e = .returned (.string (bx (Dec.digs (Dec.val (tl s))))) ∧ w = w' := by
  have HD := Lib.hid hd
  clear hd
  go_enter Tryd.func61, Tryd.ntmps61
  go_wp2_with fail
  go_loop [3] (fun i => ∃ k : Nat, k < s.size ∧ i = .int .i64 k ∧ Hid (Dec.val ((tl s).drop k) = Dec.val (tl s))) (fun i => s.size - (intOf i).toNat)
  case atStart => exact ⟨0, h0, rfl, Lib.hid (by rw [List.drop_zero])⟩
  case round =>
    obtain ⟨k, hk, rfl, hx⟩ := hrel
    have i1 : IntKind.i64.wrap ((k : Int) + 1) = (k : Int) + 1 := IntWalk.i64_in _ (by omega)
    have hdr : (tl s).drop k = s[k] :: (tl s).drop (k + 1) := by
      rw [List.drop_eq_getElem_cons (by rw [tl_length]; exact hk), tl_get s k hk]
    have HDR := Lib.hid hdr
    clear hdr
    by_cases hlt : k + 1 < s.size
    · by_cases hz : s[k] = 48
      · have e1 : ((s[k].toNat : Int) == 48) = true := by rw [hz]; rfl
        have HZ := Lib.hid hz
        clear hz
        go_wp2_with fail
        go_round
        case rel =>
          refine ⟨k + 1, hlt, by go_num, Lib.hid ?_⟩
          have h1 := hx.out
          rw [HDR.out, Dec.val_cons, HZ.out] at h1
          rw [← h1]
          show _ = 0 * _ + _
          omega
        case measure => simp [intOf]; omega
      · have e1 : ((s[k].toNat : Int) == 48) = false := by
          apply beq_eq_false_iff_ne.2
          intro h
          apply hz
          apply UInt8.toNat_inj.1
          show s[k].toNat = 48
          omega
        have HZ := Lib.hid hz
        clear hz
        go_wp2_with fail
        go_ret
        exact ⟨by rw [← trim_end HD.out hk hx.out (fun _ => HZ.out)]; rfl, rfl⟩
    · have e0 : k + 1 = s.size := by omega
      go_wp2_with fail
      go_ret
      exact ⟨by rw [← trim_end HD.out hk hx.out (fun h => absurd h (by omega))]; rfl, rfl⟩
end Go.Proofs.YtfkdhkbegfbkaaaDoor
