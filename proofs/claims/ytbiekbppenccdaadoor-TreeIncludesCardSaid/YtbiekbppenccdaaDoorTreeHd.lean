/-
  The examples of chapter 2 as plain facts: which roots, paths and links three leaves have, and that two roots differ.
-/
import Derived.Test.YtbiekbppenccdaaDoorTrI
import Derived.Test.YtbiekbppenccdaaDoorTrF
import Derived.Test.YtbiekbppenccdaaDoorTreeMath
set_option linter.unusedVariables false
namespace Go.Proofs.YtbiekbppenccdaaDoor
open Go.RowKit
def nodeLL (a b : List UInt8) : List UInt8 := [52, 58, 110, 111, 100, 101, 49, 54, 58] ++ a ++ [49, 54, 58] ++ b
theorem dec_16 : Lib.decDigits 16 = [49, 54] := by
  rw [Lib.decDigits, dif_neg (by omega), Lib.decDigits, dif_pos (by omega)]; rfl
theorem dec_4 : Lib.decDigits 4 = [52] := by
  rw [Lib.decDigits, dif_pos (by omega)]; rfl
theorem dec_1 : Lib.decDigits 1 = [49] := by
  rw [Lib.decDigits, dif_pos (by omega)]; rfl
theorem nodeT_list {a b : ByteArray} (ha : a.size = 16) (hb : b.size = 16) : (nodeT a b).data.toList = nodeLL a.data.toList b.data.toList := by
  show joinL [kNode, a, b] = _
  simp only [joinL, oneL, ha, hb, dec_16]
  have e : Lib.decDigits kNode.size = [52] := dec_4
  rw [e]
  simp [nodeLL, kNode]
theorem leafT_list (c : UInt8) : (joinB [kLeaf, ⟨#[c]⟩]).data.toList = [52, 58, 108, 101, 97, 102, 49, 58, c] := by
  show joinL [kLeaf, ⟨#[c]⟩] = _
  have e1 : Lib.decDigits kLeaf.size = [52] := dec_4
  have e2 : Lib.decDigits (ByteArray.size ⟨#[c]⟩) = [49] := dec_1
  simp only [joinL, oneL, e1, e2]
  simp [kLeaf]
theorem sumB_list (s : ByteArray) : (sumB s).data.toList = Dig.sumL s.data.toList := by simp [sumB]
def lfA : List UInt8 := Dig.sumL [52, 58, 108, 101, 97, 102, 49, 58, 97]
def lfB : List UInt8 := Dig.sumL [52, 58, 108, 101, 97, 102, 49, 58, 98]
def lfC : List UInt8 := Dig.sumL [52, 58, 108, 101, 97, 102, 49, 58, 99]
theorem diff_1 : decide (Dig.sumL (nodeLL (Dig.sumL (nodeLL lfA lfB)) lfB) = Dig.sumL (nodeLL (Dig.sumL (nodeLL lfA lfB)) lfC)) = false := by decide +kernel
theorem diff_2 : decide (Dig.sumL (nodeLL (Dig.sumL (nodeLL lfB lfB)) lfC) = Dig.sumL (nodeLL (Dig.sumL (nodeLL lfA lfB)) lfC)) = false := by decide +kernel
theorem leafB_list (c : UInt8) : (leafB ⟨#[c]⟩).data.toList = Dig.sumL [52, 58, 108, 101, 97, 102, 49, 58, c] := by
  unfold leafB
  rw [sumB_list, leafT_list]
theorem nodeB_list {a b : ByteArray} (ha : a.size = 16) (hb : b.size = 16) : (nodeB a b).data.toList = Dig.sumL (nodeLL a.data.toList b.data.toList) := by
  unfold nodeB
  rw [sumB_list, nodeT_list ha hb]
theorem leafB_size (s : ByteArray) : (leafB s).size = 16 := sumB_size _
theorem diff_B1 : nodeB (nodeB (leafB ⟨#[97]⟩) (leafB ⟨#[98]⟩)) (leafB ⟨#[98]⟩) ≠ nodeB (nodeB (leafB ⟨#[97]⟩) (leafB ⟨#[98]⟩)) (leafB ⟨#[99]⟩) := by
  intro h
  have := congrArg (fun b : ByteArray => b.data.toList) h
  simp only [nodeB_list (nodeB_size _ _) (leafB_size _), nodeB_list (leafB_size _) (leafB_size _), leafB_list] at this
  exact absurd this (of_decide_eq_false diff_1)
theorem diff_B2 : nodeB (nodeB (leafB ⟨#[98]⟩) (leafB ⟨#[98]⟩)) (leafB ⟨#[99]⟩) ≠ nodeB (nodeB (leafB ⟨#[97]⟩) (leafB ⟨#[98]⟩)) (leafB ⟨#[99]⟩) := by
  intro h
  have := congrArg (fun b : ByteArray => b.data.toList) h
  simp only [nodeB_list (nodeB_size _ _) (leafB_size _), nodeB_list (leafB_size _) (leafB_size _), leafB_list] at this
  exact absurd this (of_decide_eq_false diff_2)
theorem half_2 : half 2 = 1 := by decide
theorem half_3 : half 3 = 2 := by decide
theorem rootB_two (A B : ByteArray) : rootB [A, B] = nodeB A B := by
  rw [rootB_big (by simp)]
  simp [half_2, rootB_one]
theorem rootB_three (A B C : ByteArray) : rootB [A, B, C] = nodeB (nodeB A B) C := by
  rw [rootB_big (by simp)]
  simp [half_3, rootB_one, rootB_two]
/-- all that the examples say of three leaves -/
structure Three (A B C : ByteArray) : Prop where
  a : isB A = true
  b : isB B = true
  c : isB C = true
  d : digsB [A, B, C] = true
  root : rootS [A, B, C] = nodeB (nodeB A B) C
  p2 : pathS [A, B, C] 2 = [nodeB A B]
  p0 : pathS [A, B, C] 0 = [B, C]
  p2k : pathOk [A, B, C] 2 = true
  p0k : pathOk [A, B, C] 0 = true
  p3k : pathOk [A, B, C] 3 = false
  l2 : linkS [A, B, C] 2 = [C]
  l1 : linkS [A, B, C] 1 = [B, C]
  l2k : linkOk [A, B, C] 2 = true
  l1k : linkOk [A, B, C] 1 = true
  c1 : checkB (nodeB (nodeB A B) C) 3 2 C [nodeB A B] = true
  c2 : checkB (nodeB (nodeB A B) C) 3 2 B [nodeB A B] = false
  e1 : extB A 1 (nodeB (nodeB A B) C) 3 [B, C] = true
  e2 : extB B 1 (nodeB (nodeB A B) C) 3 [B, C] = false
theorem isB_node (a b : ByteArray) : isB (nodeB a b) = true := isB_sum _
theorem isB_leaf (a : ByteArray) : isB (leafB a) = true := isB_sum _
theorem isB_empty : isB emptyB = true := isB_sum _
theorem three_of (A B C : ByteArray) (ha : isB A = true) (hb : isB B = true) (hc : isB C = true) (d1 : nodeB (nodeB A B) B ≠ nodeB (nodeB A B) C) (d2 : nodeB (nodeB B B) C ≠ nodeB (nodeB A B) C) : Three A B C := by
  have hd : digsB [A, B, C] = true := by simp [digsB, ha, hb, hc]
  have up2 : ∀ X, upB 3 2 X [nodeB A B] = nodeB (nodeB A B) X := fun X => by
    have h := upB_hi (n := 3) (by omega) 2 (by rw [half_3]; omega) X (nodeB A B) []
    rw [half_3] at h
    rw [show [nodeB A B] = [] ++ [nodeB A B] from rfl, h, upB_small (by omega)]
  have len2 : lenB 3 2 = 1 := by rw [lenB_big (by omega), half_3, if_neg (by omega), lenB_small (by omega)]
  have bo : ∀ X, bothB 3 1 true X [B, C] = (X, nodeB (nodeB X B) C) := fun X => by
    have h := bothB_lo (n := 3) (m := 1) true (by omega) (by omega) (by rw [half_3]; omega) X C [B]
    rw [half_3] at h
    have h' := bothB_lo (n := 2) (m := 1) true (by omega) (by omega) (by rw [half_2]; omega) X B []
    rw [half_2, bothB_end] at h'
    rw [show [B, C] = [B] ++ [C] from rfl, h, show [B] = [] ++ [B] from rfl, h']
    rfl
  have lo : longB 3 1 true = 2 := by rw [longB_big true (by omega) (by omega), half_3, if_pos (by omega), longB_big true (by omega) (by omega), half_2, if_pos (by omega), longB_end]; rfl
  have p2k : pathOk [A, B, C] 2 = true := by simp [pathOk, hd]
  have p0k : pathOk [A, B, C] 0 = true := by simp [pathOk, hd]
  have l2k : linkOk [A, B, C] 2 = true := by simp [linkOk, hd]
  have l1k : linkOk [A, B, C] 1 = true := by simp [linkOk, hd]
  have pb1 : pathB [A, B] 0 = [B] := by
    rw [pathB_big (by simp)]
    simp [half_2, rootB_one, pathB_small]
  have lb1 : linkB [A, B] 1 true = [B] := by
    rw [linkB_big true (by simp) (by simp)]
    have : linkB [A] 1 true = [] := linkB_end [A] true
    simp [half_2, rootB_one, this]
  refine ⟨ha, hb, hc, hd, ?_, ?_, ?_, p2k, p0k, ?_, ?_, ?_, l2k, l1k, ?_, ?_, ?_, ?_⟩
  · rw [rootS, if_pos hd, rootB_three]
  · rw [pathS, if_pos p2k]
    show pathB [A, B, C] 2 = _
    rw [pathB_big (by simp)]
    simp [half_3, rootB_two, pathB_small]
  · rw [pathS, if_pos p0k]
    show pathB [A, B, C] 0 = _
    rw [pathB_big (by simp)]
    simp [half_3, rootB_one, pb1]
  · simp [pathOk]
  · rw [linkS, if_pos l2k]
    show linkW [A, B, C] 2 = _
    rw [linkW, if_neg (by simp), linkB_big true (by simp) (by simp)]
    have : linkB [A, B] 2 true = [] := linkB_end [A, B] true
    simp [half_3, rootB_one, this]
  · rw [linkS, if_pos l1k]
    show linkW [A, B, C] 1 = _
    rw [linkW, if_neg (by simp), linkB_big true (by simp) (by simp)]
    simp [half_3, rootB_one, lb1]
  · rw [checkB_iff]
    exact ⟨by omega, by omega, by omega, len2.symm, digsB_one (isB_node _ _), hc, up2 C⟩
  · cases e : checkB (nodeB (nodeB A B) C) 3 2 B [nodeB A B] with
    | false => rfl
    | true =>
      have := ((checkB_iff _ _ _ _ _).1 e).2.2.2.2.2.2
      exact absurd ((up2 B).symm.trans this) d1
  · rw [extB_iff]
    refine ⟨by omega, by omega, by omega, ha, isB_node _ _, by simp [digsB, hb, hc], ?_⟩
    rw [if_neg (by omega)]
    have := bo A
    exact ⟨lo.symm, by rw [show (3 : Int).toNat = 3 from rfl, show (1 : Int).toNat = 1 from rfl, this], by rw [show (3 : Int).toNat = 3 from rfl, show (1 : Int).toNat = 1 from rfl, this]⟩
  · cases e : extB B 1 (nodeB (nodeB A B) C) 3 [B, C] with
    | false => rfl
    | true =>
      have := ((extB_iff _ _ _ _ _).1 e).2.2.2.2.2.2
      rw [if_neg (by omega), show (3 : Int).toNat = 3 from rfl, show (1 : Int).toNat = 1 from rfl, bo B] at this
      exact absurd this.2.2 d2
theorem three_leaves : Three (leafB ⟨#[97]⟩) (leafB ⟨#[98]⟩) (leafB ⟨#[99]⟩) := three_of _ _ _ (isB_leaf _) (isB_leaf _) (isB_leaf _) diff_B1 diff_B2
end Go.Proofs.YtbiekbppenccdaaDoor
