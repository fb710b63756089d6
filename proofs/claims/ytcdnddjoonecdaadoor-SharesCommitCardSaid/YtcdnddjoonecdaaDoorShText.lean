/-
  The text of a share, of the document's own answers (layer 7).
-/
import Derived.Test.YtcdnddjoonecdaaDoorShRefS
import Derived.Test.YtcdnddjoonecdaaDoorTmA
import Derived.BigQuiet
import Derived.Deep.QuietTactic
set_option linter.unusedVariables false
set_option maxRecDepth 100000
namespace Go.Proofs.YtcdnddjoonecdaaDoor
open Go.RowKit
open Fdp
/-- the text of a share -/
def textS (p : Int × Int) : ByteArray := (decB p.1.toNat ++ ⟨#[32]⟩) ++ decB p.2.toNat
theorem textS_size {x y : Nat} (hx : x ≤ 16) (hy : y < 2147483647) : (textS (x, y)).size ≤ 41 := by
  have h1 := decB_size x (by omega)
  have h2 := decB_size y (by omega)
  unfold textS
  rw [ByteArray.size_append, ByteArray.size_append, Int.toNat_natCast, Int.toNat_natCast]
  have h3 : (⟨#[32]⟩ : ByteArray).size = 1 := rfl
  omega
set_option maxHeartbeats 1000000 in
theorem reftextS_any (x y : Nat) (w : World) (hx : x ≤ 16) (hy : y < 2147483647) :
    Calls Tryd.prog 13 #[.agg #[.int .i64 (x : Int), .int .i64 (y : Int)]] w fun e w' => e = .returned (.string (textS (x, y))) ∧ Below w.heap.size w w' := by
  obtain ⟨A, hA⟩ : ∃ A, A = decB x := ⟨_, rfl⟩
  obtain ⟨B, hB⟩ : ∃ B, B = decB y := ⟨_, rfl⟩
  have sA : A.size ≤ 20 := by rw [hA]; exact decB_size x (by omega)
  have sB : B.size ≤ 20 := by rw [hB]; exact decB_size y (by omega)
  have cA : Hid (∀ w : World, Calls Tryd.prog 29 #[.int .i64 (x : Int)] w fun e w' => e = .returned (.string A) ∧ w = w') := Lib.hid (fun w => by rw [hA]; exact decimal_any x w (by unfold maxLen; omega))
  have cB : Hid (∀ w : World, Calls Tryd.prog 29 #[.int .i64 (y : Int)] w fun e w' => e = .returned (.string B) ∧ w = w') := Lib.hid (fun w => by rw [hB]; exact decimal_any y w (by unfold maxLen; omega))
  have hT : Hid (textS (x, y) = (A ++ ⟨#[32]⟩) ++ B) := Lib.hid (by rw [hA, hB]; rfl)
  obtain ⟨C, hC⟩ : ∃ C : ByteArray, C = A ++ ⟨#[32]⟩ := ⟨_, rfl⟩
  have sC : C.size ≤ 21 := by
    rw [hC, ByteArray.size_append]
    have h3 : (⟨#[32]⟩ : ByteArray).size = 1 := rfl
    omega
  have HC := Lib.hid hC
  have s1 : ¬ (9223372036854775807 < A.size + (⟨#[32]⟩ : ByteArray).size) := by
    have h3 : (⟨#[32]⟩ : ByteArray).size = 1 := rfl
    omega
  have s2 : ¬ (9223372036854775807 < C.size + B.size) := by omega
  have s3 : ¬ (9223372036854775807 < (A ++ (⟨#[32]⟩ : ByteArray)).size + B.size) := by rw [← hC]; exact s2
  have s4 : ¬ (9223372036854775807 < A.size + 1) := by omega
  clear hA hB hC sA sB sC
  have D0 := Lib.hid (Below.refl w.heap.size w)
  go_enter Tryd.func13, Tryd.ntmps13
  go_wp2_with fail
  have D1 := Lib.hid (D0.out.alloc (Nat.le_refl _) (Obj.cells #[Value.int .i64 (x : Int), Value.int .i64 (y : Int)] 24))
  go_quiet ((go_at_call 29; first | with_reducible exact quiet_same (cA.out _) | with_reducible exact quiet_same (cB.out _)))
  go_wp2_with fail
  go_ret
  exact ⟨by rw [hT.out]; rfl, below_drewN D1.out _⟩
end Go.Proofs.YtcdnddjoonecdaaDoor
