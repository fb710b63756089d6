/-
  The contract of block.number: for every eight bytes the number that they make.
-/
import Derived.Test.YtbiekbppenccdaaDoorDigMix
import Derived.WalkLawsBesides
namespace Go.Proofs.YtbiekbppenccdaaDoor
open Go.RowKit
theorem or0 (b : Nat) (hb : b < 256) : bits BinOp.or IntKind.u64 0 (b : Int) = ((0 * 256 + b : Nat) : Int) := by
  have := u64_or_nat 0 b (by omega) (by omega)
  simp at this ⊢
  exact this
theorem orStep (n b : Nat) (hn : n < 72057594037927936) (hb : b < 256) : bits BinOp.or IntKind.u64 (IntKind.u64.wrap ((n : Int) * 256)) (b : Int) = ((n * 256 + b : Nat) : Int) := by
  have e : IntKind.u64.wrap ((n : Int) * 256) = ((n * 256 : Nat) : Int) := by
    rw [IntKind.wrap_u64]; omega
  rw [e, u64_or_nat _ _ (by omega) (by omega), nat_join 8 (n * 256) b (by omega) (by omega)]
def arr8 (l : List UInt8) (a : Nat) : Value := .agg #[.int .u8 (Dig.byteAt l a : Int), .int .u8 (Dig.byteAt l (a+1) : Int), .int .u8 (Dig.byteAt l (a+2) : Int), .int .u8 (Dig.byteAt l (a+3) : Int), .int .u8 (Dig.byteAt l (a+4) : Int), .int .u8 (Dig.byteAt l (a+5) : Int), .int .u8 (Dig.byteAt l (a+6) : Int), .int .u8 (Dig.byteAt l (a+7) : Int)]
theorem number_gen (b0 b1 b2 b3 b4 b5 b6 b7 : Nat) (h0 : b0 < 256) (h1 : b1 < 256) (h2 : b2 < 256) (h3 : b3 < 256) (h4 : b4 < 256) (h5 : b5 < 256) (h6 : b6 < 256) (h7 : b7 < 256) (w : World) :
   Calls Tryd.prog 70 #[.agg #[.int .u8 (b0:Int), .int .u8 (b1:Int), .int .u8 (b2:Int), .int .u8 (b3:Int), .int .u8 (b4:Int), .int .u8 (b5:Int), .int .u8 (b6:Int), .int .u8 (b7:Int)]] w fun e w' => e = .returned (.int .u64 (((((((((0 * 256 + b0) * 256 + b1) * 256 + b2) * 256 + b3) * 256 + b4) * 256 + b5) * 256 + b6) * 256 + b7 : Nat) : Int)) ∧ Below w.heap.size w w' := by
  have i0 : ∀ w, (Instr.index 72 (.agg #[.int .u8 (b0:Int), .int .u8 (b1:Int), .int .u8 (b2:Int), .int .u8 (b3:Int), .int .u8 (b4:Int), .int .u8 (b5:Int), .int .u8 (b6:Int), .int .u8 (b7:Int)]) (.int .i64 0)).run Tryd.prog w = .ok (.int .u8 (b0:Int)) w := fun _ => by kernel_rfl
  have i1 : ∀ w, (Instr.index 72 (.agg #[.int .u8 (b0:Int), .int .u8 (b1:Int), .int .u8 (b2:Int), .int .u8 (b3:Int), .int .u8 (b4:Int), .int .u8 (b5:Int), .int .u8 (b6:Int), .int .u8 (b7:Int)]) (.int .i64 1)).run Tryd.prog w = .ok (.int .u8 (b1:Int)) w := fun _ => by kernel_rfl
  have i2 : ∀ w, (Instr.index 72 (.agg #[.int .u8 (b0:Int), .int .u8 (b1:Int), .int .u8 (b2:Int), .int .u8 (b3:Int), .int .u8 (b4:Int), .int .u8 (b5:Int), .int .u8 (b6:Int), .int .u8 (b7:Int)]) (.int .i64 2)).run Tryd.prog w = .ok (.int .u8 (b2:Int)) w := fun _ => by kernel_rfl
  have i3 : ∀ w, (Instr.index 72 (.agg #[.int .u8 (b0:Int), .int .u8 (b1:Int), .int .u8 (b2:Int), .int .u8 (b3:Int), .int .u8 (b4:Int), .int .u8 (b5:Int), .int .u8 (b6:Int), .int .u8 (b7:Int)]) (.int .i64 3)).run Tryd.prog w = .ok (.int .u8 (b3:Int)) w := fun _ => by kernel_rfl
  have i4 : ∀ w, (Instr.index 72 (.agg #[.int .u8 (b0:Int), .int .u8 (b1:Int), .int .u8 (b2:Int), .int .u8 (b3:Int), .int .u8 (b4:Int), .int .u8 (b5:Int), .int .u8 (b6:Int), .int .u8 (b7:Int)]) (.int .i64 4)).run Tryd.prog w = .ok (.int .u8 (b4:Int)) w := fun _ => by kernel_rfl
  have i5 : ∀ w, (Instr.index 72 (.agg #[.int .u8 (b0:Int), .int .u8 (b1:Int), .int .u8 (b2:Int), .int .u8 (b3:Int), .int .u8 (b4:Int), .int .u8 (b5:Int), .int .u8 (b6:Int), .int .u8 (b7:Int)]) (.int .i64 5)).run Tryd.prog w = .ok (.int .u8 (b5:Int)) w := fun _ => by kernel_rfl
  have i6 : ∀ w, (Instr.index 72 (.agg #[.int .u8 (b0:Int), .int .u8 (b1:Int), .int .u8 (b2:Int), .int .u8 (b3:Int), .int .u8 (b4:Int), .int .u8 (b5:Int), .int .u8 (b6:Int), .int .u8 (b7:Int)]) (.int .i64 6)).run Tryd.prog w = .ok (.int .u8 (b6:Int)) w := fun _ => by kernel_rfl
  have i7 : ∀ w, (Instr.index 72 (.agg #[.int .u8 (b0:Int), .int .u8 (b1:Int), .int .u8 (b2:Int), .int .u8 (b3:Int), .int .u8 (b4:Int), .int .u8 (b5:Int), .int .u8 (b6:Int), .int .u8 (b7:Int)]) (.int .i64 7)).run Tryd.prog w = .ok (.int .u8 (b7:Int)) w := fun _ => by kernel_rfl
  go_enter Tryd.func70, Tryd.ntmps70
  go_wp2
  refine wp_loop_rounds 9 ?_
  repeat (rw [rounds_succ]; go_wp2)
  go_ret
  refine ⟨ret_int ?_, (Below.refl _ _).alloc (Nat.le_refl _) _⟩
  rw [or0 _ h0, orStep _ _ (by omega) h1, orStep _ _ (by omega) h2, orStep _ _ (by omega) h3, orStep _ _ (by omega) h4, orStep _ _ (by omega) h5, orStep _ _ (by omega) h6, orStep _ _ (by omega) h7]
theorem number_any (l : List UInt8) (a : Nat) (w : World) : Calls Tryd.prog 70 #[arr8 l a] w fun e w' => e = .returned (.int .u64 (Dig.blkN l a 8 : Nat)) ∧ Below w.heap.size w w' := by
  have hb := Dig.byteAt_lt l
  refine (number_gen _ _ _ _ _ _ _ _ (hb _) (hb _) (hb _) (hb _) (hb _) (hb _) (hb _) (hb _) w).mono ?_
  rintro e w' ⟨rfl, h⟩
  exact ⟨by simp [Dig.blkN], h⟩
end Go.Proofs.YtbiekbppenccdaaDoor
