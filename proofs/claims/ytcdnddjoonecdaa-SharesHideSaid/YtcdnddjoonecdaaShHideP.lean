/-
  need - 1 shares of one secret are shares of any other: facts (layer 7).
-/
import Derived.Test.YtcdnddjoonecdaaShPlc
import Derived.Test.YtcdnddjoonecdaaShB
import Derived.Lib.OwnKind
set_option linter.unusedVariables false
set_option maxRecDepth 100000
namespace Go.Proofs.Ytcdnddjoonecdaa
open Go.RowKit
open Fdp
/-- another secret, and the shares at the first k places -/
def ptsH (y : Int) (c : List Int) (f m k : Nat) : List (Int × Int) := (0, y) :: (List.range k).map fun i => (plc f m i, evF (plc f m i) c)
def plcL (f m k : Nat) : List Int := (List.range k).map fun i => (((f + i) % m : Nat) : Int)
theorem ptsH_len (y : Int) (c : List Int) (f m k : Nat) : (ptsH y c f m k).length = k + 1 := by simp [ptsH]
theorem plcL_len (f m k : Nat) : (plcL f m k).length = k := by simp [plcL]
theorem plcL_get {f m k i : Nat} (h : i < k) : (plcL f m k)[i]'(by rw [plcL_len]; exact h) = (((f + i) % m : Nat) : Int) := by simp [plcL]
theorem ptsH_next (y : Int) (c : List Int) (f m k : Nat) : ptsH y c f m (k + 1) = ptsH y c f m k ++ [(plc f m k, evF (plc f m k) c)] := by
  unfold ptsH; rw [List.range_succ, List.map_append]; rfl
theorem plcL_next (f m k : Nat) : plcL f m (k + 1) = plcL f m k ++ [(((f + k) % m : Nat) : Int)] := by
  unfold plcL; rw [List.range_succ, List.map_append]; rfl
theorem ptsH_mem {y : Int} {c : List Int} {f m k : Nat} {q : Int × Int} (h : q ∈ ptsH y c f m k) : q = (0, y) ∨ ∃ i, i < k ∧ q = (plc f m i, evF (plc f m i) c) := by
  rcases List.mem_cons.1 h with h | h
  · exact .inl h
  · obtain ⟨i, hi, rfl⟩ := List.mem_map.1 h
    exact .inr ⟨i, List.mem_range.1 hi, rfl⟩
theorem ptsH_pairs {y : Int} {c : List Int} {f m k : Nat} (hy : El y) (h : 0 < m) (hm : m ≤ 8) : pairsE (ptsH y c f m k) = true := pairsE_iff.2 fun q hq => by
  rcases ptsH_mem hq with rfl | ⟨i, hi, rfl⟩
  · exact ⟨⟨by simp, by simp⟩, hy⟩
  · have := plc_range (f := f) (i := i) h hm
    exact ⟨⟨by simp; omega, by simp; omega⟩, evF_range _ _⟩
theorem ptsH_diff {y : Int} {c : List Int} {f m k : Nat} (hk : k ≤ m) (h : 0 < m) (hm : m ≤ 8) : diffX (Xs (ptsH y c f m k)) = true := by
  unfold diffX Xs ptsH
  rw [decide_eq_true_iff, List.map_cons, List.pairwise_cons, List.map_map, List.pairwise_map]
  refine ⟨fun x hx => ?_, ?_⟩
  · obtain ⟨i, -, rfl⟩ := List.mem_map.1 hx
    have := plc_range (f := f) (i := i) h hm
    simp; omega
  · refine List.Pairwise.imp_of_mem ?_ List.nodup_range
    intro i j hi hj hne e
    rw [List.mem_range] at hi hj
    exact hne (plc_inj (by omega) (by omega) e)
theorem hide_ok {y : Int} {c o : List Int} {f m N : Nat} (hy : El y) (hN : N + 1 ≤ m) (hm : m ≤ 8) (h : OutT (ptsH y c f m N) (ptsH y c f m N).length o) :
    ∃ r, o = y :: r ∧ r.length = N ∧ allE r = true ∧ ∀ i, i < N → evF (plc f m i) (y :: r) = evF (plc f m i) c := by
  have hp := ptsH_pairs (c := c) (f := f) (k := N) hy (show 0 < m by omega) hm
  have hd := ptsH_diff (y := y) (c := c) (f := f) (k := N) (by omega) (show 0 < m by omega) hm
  have hl := h.len
  rw [ptsH_len] at hl
  obtain ⟨a, r, rfl⟩ : ∃ a r, o = a :: r := by cases o with
    | nil => simp at hl
    | cons a r => exact ⟨a, r, rfl⟩
  have h0 := h.through hp hd (j := 0) (by rw [ptsH_len]; omega)
  have ha : a = y := by
    have e : evF 0 (a :: r) = y := h0
    rw [evF_secret (h.el a (by simp))] at e
    exact e
  subst ha
  refine ⟨r, rfl, by simpa using hl, allE_iff.2 fun x hx => h.el x (by simp [hx]), fun i hi => ?_⟩
  have h1 := h.through hp hd (j := i + 1) (by rw [ptsH_len]; omega)
  have e : (ptsH a c f m N)[i + 1]'(by rw [ptsH_len]; omega) = (plc f m i, evF (plc f m i) c) := by simp [ptsH]
  rw [e] at h1
  exact h1
/-- a list of numbers and one of points, each the call's own -/
structure TwoP (B : Nat) (w : World) (s m : Value) (S : List (Int × Int)) (M : List Int) : Prop where
  sO : OwnP B w s S
  mO : OwnI B w m M
theorem TwoP.dis {B : Nat} {w : World} {s m : Value} {S : List (Int × Int)} {M : List Int} (h : TwoP B w s m S M) : ∀ g, s.ownBlock = some g → m.ownBlock ≠ some g := fun g h1 h2 => by
  obtain ⟨c, fz, e1⟩ := Lib.ownsRow_kind h.sO g h1
  obtain ⟨c', fz', e2⟩ := Lib.ownsRow_kind h.mO g h2
  rw [e1] at e2
  simp at e2
theorem TwoP.bel {B : Nat} {w w' : World} {s m : Value} {S : List (Int × Int)} {M : List Int} (h : TwoP B w s m S M) (hb : Below w.heap.size w w') : TwoP B w' s m S M := ⟨own_bel h.sO hb, own_bel h.mO hb⟩
theorem TwoP.appS {B : Nat} {w w' : World} {s m s' : Value} {S S' : List (Int × Int)} {M : List Int} (h : TwoP B w s m S M) (hO : OwnP B w' s' S') (hg : w.grownBy w' s.ownBlock) : TwoP B w' s' m S' M :=
  ⟨hO, World.ownsRow.kept h.mO hg (by
    cases e : m.ownBlock with
    | none => exact .inl rfl
    | some g => right; intro e2; exact h.dis g e2.symm e)⟩
theorem TwoP.appM {B : Nat} {w w' : World} {s m m' : Value} {S : List (Int × Int)} {M M' : List Int} (h : TwoP B w s m S M) (hO : OwnI B w' m' M') (hg : w.grownBy w' m.ownBlock) : TwoP B w' s m' S M' :=
  ⟨World.ownsRow.kept h.sO hg (by
    cases e : s.ownBlock with
    | none => exact .inl rfl
    | some g => right; intro e2; exact h.dis g e e2.symm), hO⟩
theorem own_oneP {B g : Nat} {w : World} {a b : Int} (h : w.heap[g]? = some (.cells #[.int .i64 a, .int .i64 b] 35 (0, 0))) (hB : B ≤ g) : OwnP B w (.slice (some ⟨g, 0, none⟩) 1 1) [(a, b)] :=
  ⟨rfl, .inr ⟨g, 1, #[.int .i64 a, .int .i64 b], rfl, hB, h, Nat.le_refl _, max_small (by decide), rfl, rfl⟩⟩
/-- a list of numbers of the call's own, by its block -/
theorem row_tail {R0 n : Nat} {a : Int} {r : List Int} {w : World} (h : RowB R0 (a :: r) w) (hn : n = r.length) : IntsAt w (some ⟨R0, 1, none⟩) n r :=
  ⟨hn, fun _ => ⟨R0, 1, rfl, fun j hj => by rw [h.cell (j := 1 + j) (by simp; omega)]; simp [Nat.add_comm 1 j]⟩⟩
end Go.Proofs.Ytcdnddjoonecdaa
