/-
  The contracts of digest.mix, of the reference mix and of blocks.count: for every number below 2^64 both return the mixed number; for every text the number of its blocks.
-/
import Derived.Test.YtbiekbppenccdaaDoorProg
import Derived.Test.YtbiekbppenccdaaDoorDigPure
import Derived.WalkKit
import Derived.Handy
import Derived.Outline
namespace Go.Proofs.YtbiekbppenccdaaDoor
open Go.RowKit
theorem ret_int {k : IntKind} {a b : Int} (h : a = b) : Ending.returned (.int k a) = .returned (.int k b) := by rw [h]
theorem mix_form (x : Nat) (hx : x < 18446744073709551616) :
  bits BinOp.xor IntKind.u64
                        (IntKind.u64.wrap
                          (bits BinOp.xor IntKind.u64
                              (IntKind.u64.wrap
                                (bits BinOp.xor IntKind.u64 (↑x) (↑x / 2147483648) * 14029467366897019727))
                              (IntKind.u64.wrap
                                  (bits BinOp.xor IntKind.u64 (↑x) (↑x / 2147483648) * 14029467366897019727) /
                                134217728) *
                            11400714785074694791))
                        (IntKind.u64.wrap
                            (bits BinOp.xor IntKind.u64
                                (IntKind.u64.wrap
                                  (bits BinOp.xor IntKind.u64 (↑x) (↑x / 2147483648) * 14029467366897019727))
                                (IntKind.u64.wrap
                                    (bits BinOp.xor IntKind.u64 (↑x) (↑x / 2147483648) * 14029467366897019727) /
                                  134217728) *
                              11400714785074694791) /
                          8589934592) = ((Dig.mixN x : Nat) : Int) := by
  have h1 := mixStep_u64 x 2147483648 Dig.A1 hx
  have b1 : (x ^^^ x / 2147483648) * Dig.A1 % Dig.M < 18446744073709551616 := Nat.mod_lt _ Dig.M_pos
  have h2 := mixStep_u64 _ 134217728 Dig.A2 b1
  have b2 : ((((x ^^^ x / 2147483648) * Dig.A1 % Dig.M) ^^^ ((x ^^^ x / 2147483648) * Dig.A1 % Dig.M) / 134217728) * Dig.A2 % Dig.M) < 18446744073709551616 := Nat.mod_lt _ Dig.M_pos
  have h3 := xorShift_u64 _ 8589934592 b2
  have e1 : (Dig.A1 : Int) = 14029467366897019727 := rfl
  have e2 : (Dig.A2 : Int) = 11400714785074694791 := rfl
  have e3 : ((2147483648 : Nat) : Int) = 2147483648 := rfl
  have e4 : ((134217728 : Nat) : Int) = 134217728 := rfl
  have e5 : ((8589934592 : Nat) : Int) = 8589934592 := rfl
  rw [e1, e3] at h1
  rw [h1]
  rw [e2, e4] at h2
  erw [h2]
  rw [e5] at h3
  exact h3
theorem mix_any (x : Nat) (hx : x < 18446744073709551616) (w : World) : Calls Tryd.prog 69 #[.int .u64 (x:Int)] w fun e w' => e = .returned (.int .u64 ((Dig.mixN x : Nat) : Int)) ∧ w = w' := by
  go_enter Tryd.func69, Tryd.ntmps69
  go_wp2
  go_ret
  exact ⟨ret_int (mix_form x hx), rfl⟩
theorem refmix_any (x : Nat) (hx : x < 18446744073709551616) (w : World) : Calls Tryd.prog 65 #[.int .u64 (x:Int)] w fun e w' => e = .returned (.int .u64 ((Dig.mixN x : Nat) : Int)) ∧ w = w' := by
  go_enter Tryd.func65, Tryd.ntmps65
  go_wp2
  go_ret
  exact ⟨ret_int (mix_form x hx), rfl⟩
theorem count_any (s : ByteArray) (w : World) (hs : s.size ≤ maxLen) : Calls Tryd.prog 68 #[.string s] w fun e w' => e = .returned (.int .i64 ((s.size / 8 + 1 : Nat) : Int)) ∧ w = w' := by
  unfold maxLen at hs
  go_enter Tryd.func68, Tryd.ntmps68
  go_wp2
  go_ret
  exact ⟨ret_int (by omega), rfl⟩
end Go.Proofs.YtbiekbppenccdaaDoor
