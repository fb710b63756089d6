/-
  Plain mathematics of the trees of layer 2: roots, paths and links over digests as plain functions; what a path or a link that proves something binds, or else two different texts have one digest.
-/
import Derived.Test.YtcdnddjoonecdaaDoorDgC
import Derived.Deep.RegionHeld3
import Derived.WalkLawsBesides
import Derived.Deep.AppendLies
set_option linter.unusedVariables false
set_option maxRecDepth 100000
namespace Go.Proofs.YtcdnddjoonecdaaDoor
open Go.RowKit

/-- the greatest power of two below n, by doubling -/
def halfGo : Nat → Nat → Nat → Nat
  | 0, k, _ => k
  | f + 1, k, n => if 2 * k < n then halfGo f (2 * k) n else k
def half (n : Nat) : Nat := halfGo n 1 n
theorem halfGo_end (f k n : Nat) (h : ¬ 2 * k < n) : halfGo f k n = k := by
  cases f with
  | zero => rfl
  | succ f => simp [halfGo, h]
theorem halfGo_spec (f k n : Nat) (h1 : 1 ≤ k) (h2 : k < n) (h3 : n ≤ f + k) : 1 ≤ halfGo f k n ∧ halfGo f k n < n ∧ n ≤ 2 * halfGo f k n := by
  induction f generalizing k with
  | zero => omega
  | succ f ih =>
    by_cases h : 2 * k < n
    · rw [halfGo, if_pos h]; exact ih (2 * k) (by omega) h (by omega)
    · rw [halfGo_end _ _ _ h]; omega
theorem half_spec {n : Nat} (h : 2 ≤ n) : 1 ≤ half n ∧ half n < n ∧ n ≤ 2 * half n := halfGo_spec n 1 n (by omega) (by omega) (by omega)
theorem half_pos {n : Nat} (h : 2 ≤ n) : 1 ≤ half n := (half_spec h).1
theorem half_lt {n : Nat} (h : 2 ≤ n) : half n < n := (half_spec h).2.1
theorem half_le {n : Nat} (h : 2 ≤ n) : n ≤ 2 * half n := (half_spec h).2.2
theorem halfGo_pow (f k n j : Nat) (hk : k = 2 ^ j) : ∃ i, halfGo f k n = 2 ^ i := by
  induction f generalizing k j with
  | zero => exact ⟨j, hk⟩
  | succ f ih =>
    by_cases h : 2 * k < n
    · rw [halfGo, if_pos h]; exact ih (2 * k) (j + 1) (by rw [hk, Nat.pow_succ]; omega)
    · rw [halfGo_end _ _ _ h]; exact ⟨j, hk⟩
theorem half_pow (n : Nat) : ∃ i, half n = 2 ^ i := halfGo_pow n 1 n 0 rfl
/-- it is the only one -/
theorem pow_unique {a b n : Nat} (ha : 2 ^ a < n) (ha2 : n ≤ 2 * 2 ^ a) (hb : 2 ^ b < n) (hb2 : n ≤ 2 * 2 ^ b) : a = b := by
  rcases Nat.lt_trichotomy a b with h | h | h
  · have : 2 ^ (a + 1) ≤ 2 ^ b := Nat.pow_le_pow_right (by omega) h
    rw [Nat.pow_succ] at this; omega
  · exact h
  · have : 2 ^ (b + 1) ≤ 2 ^ a := Nat.pow_le_pow_right (by omega) h
    rw [Nat.pow_succ] at this; omega
theorem half_mid {n m : Nat} (hn : 2 ≤ n) (h1 : half n < m) (h2 : m ≤ n) : half m = half n := by
  have hm : 2 ≤ m := by have := half_pos hn; omega
  obtain ⟨i, hi⟩ := half_pow n
  obtain ⟨j, hj⟩ := half_pow m
  have a1 := half_lt hm
  have a2 := half_le hm
  have a3 := half_le hn
  rw [hi] at h1 a3 ⊢
  rw [hj] at a1 a2 ⊢
  rw [pow_unique (n := m) a1 a2 h1 (by omega)]

def kEmpty : ByteArray := ⟨#[101, 109, 112, 116, 121]⟩
def kLeaf : ByteArray := ⟨#[108, 101, 97, 102]⟩
def kNode : ByteArray := ⟨#[110, 111, 100, 101]⟩
def emptyB : ByteArray := sumB (joinB [kEmpty])
def leafB (s : ByteArray) : ByteArray := sumB (joinB [kLeaf, s])
def nodeT (a b : ByteArray) : ByteArray := joinB [kNode, a, b]
def nodeB (a b : ByteArray) : ByteArray := sumB (nodeT a b)
theorem joinB_inj {l m : List ByteArray} (h : joinB l = joinB m) : l = m := joinL_inj (by
  have := congrArg (fun b : ByteArray => b.data.toList) h
  simpa [joinB] using this)
theorem nodeT_inj {a b c d : ByteArray} (h : nodeT a b = nodeT c d) : a = c ∧ b = d := by
  have := joinB_inj h
  simp at this
  exact this

/-- the root of a list of digests -/
def rootB (l : List ByteArray) : ByteArray :=
  if h : 2 ≤ l.length then nodeB (rootB (l.take (half l.length))) (rootB (l.drop (half l.length))) else l.headD emptyB
  termination_by l.length
  decreasing_by
    · rw [List.length_take]; have := half_lt h; omega
    · rw [List.length_drop]; have := half_pos h; omega
theorem rootB_big {l : List ByteArray} (h : 2 ≤ l.length) : rootB l = nodeB (rootB (l.take (half l.length))) (rootB (l.drop (half l.length))) := by rw [rootB, dif_pos h]
theorem rootB_small {l : List ByteArray} (h : ¬ 2 ≤ l.length) : rootB l = l.headD emptyB := by rw [rootB, dif_neg h]
theorem rootB_nil : rootB [] = emptyB := rootB_small (by simp)
theorem rootB_one (a : ByteArray) : rootB [a] = a := rootB_small (by simp)
/-- the path of an element -/
def pathB (l : List ByteArray) (i : Nat) : List ByteArray :=
  if h : 2 ≤ l.length then
    if i < half l.length then pathB (l.take (half l.length)) i ++ [rootB (l.drop (half l.length))]
    else pathB (l.drop (half l.length)) (i - half l.length) ++ [rootB (l.take (half l.length))]
  else []
  termination_by l.length
  decreasing_by
    · rw [List.length_take]; have := half_lt h; omega
    · rw [List.length_drop]; have := half_pos h; omega
/-- its length -/
def lenB (n i : Nat) : Nat :=
  if h : 2 ≤ n then
    if i < half n then 1 + lenB (half n) i else 1 + lenB (n - half n) (i - half n)
  else 0
  termination_by n
  decreasing_by
    · exact half_lt h
    · have := half_pos h; omega
/-- the root that a path of the right length makes of a digest -/
def upB (n i : Nat) (d : ByteArray) (p : List ByteArray) : ByteArray :=
  if h : 2 ≤ n then
    if i < half n then nodeB (upB (half n) i d p.dropLast) (p.getLastD emptyB)
    else nodeB (p.getLastD emptyB) (upB (n - half n) (i - half n) d p.dropLast)
  else d
  termination_by n
  decreasing_by
    · exact half_lt h
    · have := half_pos h; omega
/-- the link of m in a list -/
def linkB (l : List ByteArray) (m : Nat) (whole : Bool) : List ByteArray :=
  if m = l.length then (if whole then [] else [rootB l])
  else if h : 2 ≤ l.length then
    if m ≤ half l.length then linkB (l.take (half l.length)) m whole ++ [rootB (l.drop (half l.length))]
    else linkB (l.drop (half l.length)) (m - half l.length) false ++ [rootB (l.take (half l.length))]
  else []
  termination_by l.length
  decreasing_by
    · rw [List.length_take]; have := half_lt h; omega
    · rw [List.length_drop]; have := half_pos h; omega
def longB (n m : Nat) (whole : Bool) : Nat :=
  if m = n then (if whole then 0 else 1)
  else if h : 2 ≤ n then
    if m ≤ half n then 1 + longB (half n) m whole else 1 + longB (n - half n) (m - half n) false
  else 0
  termination_by n
  decreasing_by
    · exact half_lt h
    · have := half_pos h; omega
/-- the two roots that a link of the right length makes -/
def bothB (n m : Nat) (whole : Bool) (old : ByteArray) (p : List ByteArray) : ByteArray × ByteArray :=
  if m = n then (if whole then (old, old) else (p.headD emptyB, p.headD emptyB))
  else if h : 2 ≤ n then
    if m ≤ half n then ((bothB (half n) m whole old p.dropLast).1, nodeB (bothB (half n) m whole old p.dropLast).2 (p.getLastD emptyB))
    else (nodeB (p.getLastD emptyB) (bothB (n - half n) (m - half n) false old p.dropLast).1, nodeB (p.getLastD emptyB) (bothB (n - half n) (m - half n) false old p.dropLast).2)
  else (old, old)
  termination_by n
  decreasing_by
    all_goals first
      | exact half_lt h
      | (have := half_pos h; omega)
/-- the texts that are digested for a root -/
def textsB (l : List ByteArray) : List ByteArray :=
  if h : 2 ≤ l.length then textsB (l.take (half l.length)) ++ textsB (l.drop (half l.length)) ++ [nodeT (rootB (l.take (half l.length))) (rootB (l.drop (half l.length)))]
  else if l.length = 0 then [joinB [kEmpty]] else []
  termination_by l.length
  decreasing_by
    · rw [List.length_take]; have := half_lt h; omega
    · rw [List.length_drop]; have := half_pos h; omega
def pathTextsB (n i : Nat) (d : ByteArray) (p : List ByteArray) : List ByteArray :=
  if h : 2 ≤ n then
    if i < half n then pathTextsB (half n) i d p.dropLast ++ [nodeT (upB (half n) i d p.dropLast) (p.getLastD emptyB)]
    else pathTextsB (n - half n) (i - half n) d p.dropLast ++ [nodeT (p.getLastD emptyB) (upB (n - half n) (i - half n) d p.dropLast)]
  else []
  termination_by n
  decreasing_by
    · exact half_lt h
    · have := half_pos h; omega
def linkTextsB (n m : Nat) (whole : Bool) (old : ByteArray) (p : List ByteArray) : List ByteArray :=
  if m = n then []
  else if h : 2 ≤ n then
    if m ≤ half n then linkTextsB (half n) m whole old p.dropLast ++ [nodeT (bothB (half n) m whole old p.dropLast).2 (p.getLastD emptyB)]
    else linkTextsB (n - half n) (m - half n) false old p.dropLast ++ [nodeT (p.getLastD emptyB) (bothB (n - half n) (m - half n) false old p.dropLast).1] ++ [nodeT (p.getLastD emptyB) (bothB (n - half n) (m - half n) false old p.dropLast).2]
  else []
  termination_by n
  decreasing_by
    · exact half_lt h
    · have := half_pos h; omega
theorem textsB_big {l : List ByteArray} (h : 2 ≤ l.length) : textsB l = textsB (l.take (half l.length)) ++ textsB (l.drop (half l.length)) ++ [nodeT (rootB (l.take (half l.length))) (rootB (l.drop (half l.length)))] := by rw [textsB, dif_pos h]
/-- two different texts of a list have one digest -/
def Shown (l : List ByteArray) : Prop := ∃ x ∈ l, ∃ y ∈ l, sumB x = sumB y ∧ x ≠ y
theorem Shown.mono {l m : List ByteArray} (h : Shown l) (hs : ∀ x ∈ l, x ∈ m) : Shown m := by
  obtain ⟨x, hx, y, hy, e, n⟩ := h
  exact ⟨x, hs x hx, y, hs y hy, e, n⟩
theorem take_length {l : List ByteArray} (h : 2 ≤ l.length) : (l.take (half l.length)).length = half l.length := by rw [List.length_take]; have := half_lt h; omega
theorem drop_length {l : List ByteArray} (h : 2 ≤ l.length) : (l.drop (half l.length)).length = l.length - half l.length := List.length_drop

/-- two lists of one length with one root are equal, or two different texts have one digest -/
theorem root_binds : ∀ (n : Nat) (a b : List ByteArray), a.length = n → b.length = n → rootB a = rootB b → a = b ∨ Shown (textsB a ++ textsB b) := by
  intro n
  induction n using Nat.strongRecOn with
  | _ n ih =>
    intro a b ha hb h
    by_cases h2 : 2 ≤ n
    · have ha2 : 2 ≤ a.length := by omega
      have hb2 : 2 ≤ b.length := by omega
      rw [rootB_big ha2, rootB_big hb2] at h
      by_cases e : nodeT (rootB (a.take (half a.length))) (rootB (a.drop (half a.length))) = nodeT (rootB (b.take (half b.length))) (rootB (b.drop (half b.length)))
      · obtain ⟨e1, e2⟩ := nodeT_inj e
        have hp := half_pos h2
        have hl := half_lt h2
        have r1 := ih (half n) hl _ _ (by rw [take_length ha2, ha]) (by rw [take_length hb2, hb]) e1
        have r2 := ih (n - half n) (by omega) _ _ (by rw [drop_length ha2, ha]) (by rw [drop_length hb2, hb]) e2
        have sub : ∀ x, (x ∈ textsB (a.take (half a.length)) ++ textsB (b.take (half b.length)) ∨ x ∈ textsB (a.drop (half a.length)) ++ textsB (b.drop (half b.length))) → x ∈ textsB a ++ textsB b := by
          intro x hx
          rw [textsB_big ha2, textsB_big hb2]
          simp only [List.mem_append] at hx ⊢
          rcases hx with (hx | hx) | (hx | hx) <;> simp [hx]
        rcases r1 with r1 | r1
        · rcases r2 with r2 | r2
          · left
            rw [← List.take_append_drop (half a.length) a, ← List.take_append_drop (half b.length) b, r1, r2]
          · exact .inr (r2.mono fun x hx => sub x (.inr hx))
        · exact .inr (r1.mono fun x hx => sub x (.inl hx))
      · right
        refine ⟨_, ?_, _, ?_, h, e⟩
        · rw [textsB_big ha2]; simp
        · rw [textsB_big hb2, List.mem_append]; right; simp
    · left
      match a, b, ha, hb with
      | [], [], _, _ => rfl
      | [x], [y], _, _ => rw [rootB_one, rootB_one] at h; rw [h]
      | [], _ :: _, ha, hb => simp at ha hb; omega
      | _ :: _, [], ha, hb => simp at ha hb; omega
      | x :: y :: r, _, ha, _ => simp at ha; omega
      | _, x :: y :: r, _, hb => simp at hb; omega
end Go.Proofs.YtcdnddjoonecdaaDoor

set_option linter.unusedVariables false
set_option maxRecDepth 100000
namespace Go.Proofs.YtcdnddjoonecdaaDoor
open Go.RowKit
set_option maxHeartbeats 400000 in
theorem half_any (n : Nat) (w : World) (h2 : 2 ≤ n) (hn : n ≤ 1099511627776) :
    Calls Tryd.prog 30 #[.int .i64 (n : Int)] w fun e w' => e = .returned (.int .i64 (half n : Nat)) ∧ w = w' := by
  go_enter Tryd.func30, Tryd.ntmps30
  go_wp2_with fail
  go_loop [3] (fun i => ∃ f k : Nat, i = .int .i64 k ∧ 1 ≤ k ∧ k < n ∧ n ≤ f + k ∧ halfGo f k n = half n) (fun i => n - (intOf i).toNat)
  case atStart => exact ⟨n, 1, rfl, by omega, by omega, by omega, rfl⟩
  case round =>
    obtain ⟨f, k, rfl, h1, h3, h4, h5⟩ := hrel
    have H5 := Lib.hid h5
    clear h5
    by_cases hlt : 2 * k < n
    · go_wp2_with fail
      go_round
      case rel =>
        obtain ⟨g, rfl⟩ : ∃ g, f = g + 1 := ⟨f - 1, by omega⟩
        refine ⟨g, 2 * k, by go_num, by omega, hlt, by omega, ?_⟩
        have := H5.out
        rwa [halfGo, if_pos hlt] at this
      case measure => simp [intOf]; omega
    · have hk : half n = k := by rw [← H5.out, halfGo_end _ _ _ hlt]
      have HK := Lib.hid hk
      clear hk
      go_wp2_with fail
      go_ret
      exact ⟨by rw [HK.out]; rfl, rfl⟩
/-- the joined text is no longer than what is asked for it -/
theorem join_le_cap {ss : List ByteArray} (h : ∀ s ∈ ss, s.size ≤ 1099511627776) : (joinL ss).length ≤ capN ss := by
  induction ss with
  | nil => simp [joinL]
  | cons s r ih =>
    have h1 := h s (List.mem_cons_self ..)
    have h2 := ih (fun x hx => h x (List.mem_cons_of_mem _ hx))
    have h3 : (decB s.size).size ≤ 20 := decB_size _ (by omega)
    have h4 : (decB s.size).size = (Lib.decDigits s.size).length := by show (Lib.decDigits s.size).toArray.size = _; simp
    have h5 : s.data.toList.length = s.size := by simp
    simp only [joinL, oneL, capN, List.length_append, List.length_cons]
    omega
/-- a literal list of three, two, one -/
theorem lit3_at (w : World) (a b c : ByteArray) : StrsAt (w.alloc (Obj.cells #[Value.string a, Value.string b, Value.string c] 9)) (.slice (some ⟨w.heap.size, 0, none⟩) 3 3) [a, b, c] := by
  refine .inr ⟨by simp, w.heap.size, 0, 3, rfl, fun j hj => ?_⟩
  rw [Lib.cell_of_heap (heap_last w _)]
  match j, hj with
  | 0, _ => rfl
  | 1, _ => rfl
  | 2, _ => rfl
theorem lit2_at (w : World) (a b : ByteArray) : StrsAt (w.alloc (Obj.cells #[Value.string a, Value.string b] 9)) (.slice (some ⟨w.heap.size, 0, none⟩) 2 2) [a, b] := by
  refine .inr ⟨by simp, w.heap.size, 0, 2, rfl, fun j hj => ?_⟩
  rw [Lib.cell_of_heap (heap_last w _)]
  match j, hj with
  | 0, _ => rfl
  | 1, _ => rfl
/-- the reference's List of a short literal -/
theorem reflit_any (v : Value) (ss : List ByteArray) (w : World) (h : StrsAt w v ss) (hl : ss.length ≤ 10) (hs : ∀ s ∈ ss, s.size ≤ 2147483648) :
    Calls Tryd.prog 35 #[v] w fun e w' => e = .returned (.string (sumB (joinB ss))) ∧ Below w.heap.size w w' := by
  have hc : ∀ l : List ByteArray, (∀ s ∈ l, s.size ≤ 2147483648) → capN l ≤ 2147483669 * l.length := by
    intro l
    induction l with
    | nil => intro _; simp [capN]
    | cons s r ih =>
      intro h
      have h1 := h s (List.mem_cons_self ..)
      have h2 := ih (fun x hx => h x (List.mem_cons_of_mem _ hx))
      simp only [capN, List.length_cons]; omega
  have c1 := hc ss hs
  have c2 := join_le_cap (ss := ss) (fun s h => by have := hs s h; omega)
  exact reflist_any v ss w h (by unfold maxLen; omega) (by omega) (by omega)
theorem refnode_any (a b : ByteArray) (w : World) (ha : a.size ≤ 2147483648) (hb : b.size ≤ 2147483648) :
    Calls Tryd.prog 50 #[.string a, .string b] w fun e w' => e = .returned (.string (nodeB a b)) ∧ Below w.heap.size w w' := by
  go_enter Tryd.func50, Tryd.ntmps50
  go_wp2_with fail
  refine (reflit_any _ _ _ (lit3_at w kNode a b) (by simp) (by
    intro s h; simp only [List.mem_cons, List.not_mem_nil, or_false] at h
    rcases h with rfl | rfl | rfl
    · decide
    · exact ha
    · exact hb)).mono ?_
  rintro e w1 ⟨rfl, hb1⟩
  go_wp2_with fail
  go_ret
  exact ⟨rfl, ((Below.refl _ _).alloc (Nat.le_refl _) _).trans (hb1.mono (by simp))⟩
theorem refleaf_any (a : ByteArray) (w : World) (ha : a.size ≤ 2147483648) :
    Calls Tryd.prog 17 #[.string a] w fun e w' => e = .returned (.string (leafB a)) ∧ Below w.heap.size w w' := by
  go_enter Tryd.func17, Tryd.ntmps17
  go_wp2_with fail
  refine (reflit_any _ _ _ (lit2_at w kLeaf a) (by simp) (by
    intro s h; simp only [List.mem_cons, List.not_mem_nil, or_false] at h
    rcases h with rfl | rfl
    · decide
    · exact ha)).mono ?_
  rintro e w1 ⟨rfl, hb1⟩
  go_wp2_with fail
  go_ret
  exact ⟨rfl, ((Below.refl _ _).alloc (Nat.le_refl _) _).trans (hb1.mono (by simp))⟩
theorem refempty_any (w : World) :
    Calls Tryd.prog 49 #[] w fun e w' => e = .returned (.string emptyB) ∧ Below w.heap.size w w' := by
  go_enter Tryd.func49, Tryd.ntmps49
  go_wp2_with fail
  refine (reflit_any _ _ _ (one_at w kEmpty) (by simp) (by
    intro s h; simp only [List.mem_cons, List.not_mem_nil, or_false] at h
    subst h; decide)).mono ?_
  rintro e w1 ⟨rfl, hb1⟩
  go_wp2_with fail
  go_ret
  exact ⟨rfl, ((Below.refl _ _).alloc (Nat.le_refl _) _).trans (hb1.mono (by simp))⟩
end Go.Proofs.YtcdnddjoonecdaaDoor

set_option linter.unusedVariables false
set_option maxRecDepth 100000
namespace Go.Proofs.YtcdnddjoonecdaaDoor
open Go.RowKit
/-- short texts -/
def Small (ss : List ByteArray) : Prop := ∀ s ∈ ss, s.size ≤ 2147483648
theorem Small.take {ss : List ByteArray} (h : Small ss) (k : Nat) : Small (ss.take k) := fun s hs => h s (List.mem_of_mem_take hs)
theorem Small.drop {ss : List ByteArray} (h : Small ss) (k : Nat) : Small (ss.drop k) := fun s hs => h s (List.mem_of_mem_drop hs)
theorem nodeB_size (a b : ByteArray) : (nodeB a b).size = 16 := sumB_size _
theorem emptyB_size : emptyB.size = 16 := sumB_size _
theorem rootB_size {ss : List ByteArray} (h : Small ss) : (rootB ss).size ≤ 2147483648 := by
  by_cases h2 : 2 ≤ ss.length
  · rw [rootB_big h2, nodeB_size]; omega
  · match ss, h2 with
    | [], _ => rw [rootB_nil, emptyB_size]; omega
    | [a], _ => rw [rootB_one]; exact h a (List.mem_cons_self ..)
    | _ :: _ :: _, h2 => simp at h2
set_option maxHeartbeats 1000000 in
theorem refroot_step (ss : List ByteArray) (b off cap : Nat) (w : World) (h2 : 2 ≤ ss.length) (hn : ss.length ≤ 1099511627776) (hcap : ss.length ≤ cap) (hcm : cap ≤ maxLen) (hS : Small ss)
    (hlo : ∀ w', Below w.heap.size w w' → Calls Tryd.prog 31 #[.slice (some ⟨b, off, none⟩) (half ss.length) cap] w' fun e w'' => e = .returned (.string (rootB (ss.take (half ss.length)))) ∧ Below w'.heap.size w' w'')
    (hhi : ∀ w', Below w.heap.size w w' → Calls Tryd.prog 31 #[.slice (some ⟨b, off + half ss.length, none⟩) (ss.length - half ss.length) (cap - half ss.length)] w' fun e w'' => e = .returned (.string (rootB (ss.drop (half ss.length)))) ∧ Below w'.heap.size w' w'') :
    Calls Tryd.prog 31 #[.slice (some ⟨b, off, none⟩) ss.length cap] w fun e w' => e = .returned (.string (rootB ss)) ∧ Below w.heap.size w w' := by
  have HLO := Lib.hid hlo
  have HHI := Lib.hid hhi
  have s1 := rootB_size (hS.take (half ss.length))
  have s2 := rootB_size (hS.drop (half ss.length))
  have S1 := Lib.hid s1
  have S2 := Lib.hid s2
  have HR := Lib.hid (rootB_big h2)
  have k1 := half_pos h2
  have k2 := half_lt h2
  have i1 : (0 : Int) ≤ (half ss.length : Int) := by omega
  have i2 : (half ss.length : Int) ≤ (cap : Int) := by omega
  have i3 : (half ss.length : Int) ≤ (ss.length : Int) := by omega
  have t0 : ((ss.length : Int) == 0) = false := beq_eq_false_iff_ne.2 (by omega)
  have t1 : ((ss.length : Int) == 1) = false := beq_eq_false_iff_ne.2 (by omega)
  clear hlo hhi s1 s2 hS
  unfold maxLen at hcm
  go_enter Tryd.func31, Tryd.ntmps31
  go_wp2_with fail
  refine (half_any _ _ h2 hn).mono ?_
  rintro e w1 ⟨rfl, rfl⟩
  go_wp2_with fail
  go_region_held3 (fun w' => Below w.heap.size w w') (first | (with_reducible assumption) | exact Below.drew (Below.refl _ _) | exact (Below.trans (by assumption) (Below.mono (by assumption) (Below.size (by assumption))))) (first | (go_at_call 31; first | ((with_reducible refine (HLO.out _ ?hb).mono ?_); (case hb => assumption); rintro e w2 ⟨rfl, hb2⟩) | ((with_reducible refine (HHI.out _ ?hb).mono ?_); (case hb => assumption); rintro e w2 ⟨rfl, hb2⟩)) | (go_at_call 50; refine (refnode_any _ _ _ S1.out S2.out).mono ?_; rintro e w2 ⟨rfl, hb2⟩))
  go_wp2_with fail
  go_ret
  exact ⟨by rw [HR.out]; rfl, by assumption⟩
set_option maxHeartbeats 400000 in
theorem refroot_nil (a : Option Addr) (cap : Nat) (w : World) :
    Calls Tryd.prog 31 #[.slice a 0 cap] w fun e w' => e = .returned (.string (rootB [])) ∧ Below w.heap.size w w' := by
  have HR := Lib.hid rootB_nil
  go_enter Tryd.func31, Tryd.ntmps31
  go_wp2_with fail
  refine (refempty_any _).mono ?_
  rintro e w1 ⟨rfl, hb1⟩
  go_wp2_with fail
  go_ret
  exact ⟨by rw [HR.out]; rfl, hb1⟩
set_option maxHeartbeats 400000 in
theorem refroot_one (s : ByteArray) (b off cap : Nat) (w : World) (hc : w.cell? ⟨b, off, none⟩ = some (.string s)) :
    Calls Tryd.prog 31 #[.slice (some ⟨b, off, none⟩) 1 cap] w fun e w' => e = .returned (.string (rootB [s])) ∧ Below w.heap.size w w' := by
  have HR := Lib.hid (rootB_one s)
  go_enter Tryd.func31, Tryd.ntmps31
  go_wp2_with fail
  go_ret
  exact ⟨by rw [HR.out]; rfl, Below.refl _ _⟩
theorem refroot_any : ∀ (n : Nat) (ss : List ByteArray) (v : Value) (w : World), ss.length = n → n ≤ 1099511627776 → Small ss → StrsOk w v ss →
    Calls Tryd.prog 31 #[v] w fun e w' => e = .returned (.string (rootB ss)) ∧ Below w.heap.size w w' := by
  intro n
  induction n using Nat.strongRecOn with
  | _ n ih =>
    intro ss v w hn hle hS hok
    by_cases h2 : 2 ≤ ss.length
    · obtain ⟨b, off, cap, rfl, h1, h3, hc⟩ := hok.open_ (by omega)
      have k1 := half_pos h2
      have k2 := half_lt h2
      refine refroot_step ss b off cap w h2 (by omega) h1 h3 hS ?_ ?_
      · intro w' hb
        exact ih (half ss.length) (by omega) (ss.take (half ss.length)) _ w' (take_length h2) (by omega) (hS.take _) ((StrsOk.first h1 h3 hok.sizes hc _ k1 (by omega)).below hb)
      · intro w' hb
        exact ih (ss.length - half ss.length) (by omega) (ss.drop (half ss.length)) _ w' (drop_length h2) (by omega) (hS.drop _) ((StrsOk.rest h1 h3 hok.sizes hc _ k2).below hb)
    · match ss, h2 with
      | [], _ =>
        obtain ⟨a, cap, rfl, _, _⟩ := hok.room
        exact refroot_nil a cap w
      | [s], _ =>
        obtain ⟨b, off, cap, rfl, h1, h3, hc⟩ := hok.open_ (by simp)
        exact refroot_one s b off cap w (hc 0 (by simp))
      | _ :: _ :: _, h2 => simp at h2
end Go.Proofs.YtcdnddjoonecdaaDoor

set_option linter.unusedVariables false
set_option maxRecDepth 100000
namespace Go.Proofs.YtcdnddjoonecdaaDoor
open Go.RowKit
/-- a slice of strings of the call's own -/
def OwnS (B : Nat) (w : World) (v : Value) (ss : List ByteArray) : Prop := w.ownsRow B 9 1 v ss.length (ss.map Value.string)
theorem OwnS.nil (B : Nat) (w : World) : OwnS B w (.slice none 0 0) [] := World.ownsRow_nil _ _ _ _
theorem OwnS.below {B : Nat} {w w' : World} {v : Value} {ss : List ByteArray} (h : OwnS B w v ss) (hb : Below w.heap.size w w') : OwnS B w' v ss := by
  by_cases e : v.ownBlock = none
  · exact World.ownsRow.kept (row := none) h ⟨hb.os, hb.tape, hb.output, hb.size, fun k hk _ => hb.block k hk⟩ (.inl e)
  · exact World.ownsRow.kept (row := none) h ⟨hb.os, hb.tape, hb.output, hb.size, fun k hk _ => hb.block k hk⟩ (.inr e)
theorem OwnS.mono {B B' : Nat} {w : World} {v : Value} {ss : List ByteArray} (h : OwnS B w v ss) (hB : B' ≤ B) : OwnS B' w v ss := by
  refine ⟨h.1, ?_⟩
  rcases h.2 with h0 | ⟨g, cap, cur, h1, h2, h3⟩
  · exact .inl h0
  · exact .inr ⟨g, cap, cur, h1, Nat.le_trans hB h2, h3⟩
theorem OwnS.ok {B : Nat} {w : World} {v : Value} {ss : List ByteArray} (h : OwnS B w v ss) (hs : ∀ s ∈ ss, s.size ≤ maxLen) : StrsOk w v ss := by
  rcases h.2 with ⟨rfl, h0⟩ | ⟨g, cap, cur, rfl, h2, hg, h3, h4, h5, h6⟩
  · obtain rfl : ss = [] := List.eq_nil_of_length_eq_zero h0
    exact StrsOk.none
  · by_cases h0 : 0 < ss.length
    · refine StrsOk.mk' h0 h3 h4 hs (fun j hj => ?_)
      rw [Nat.zero_add, World.ownsRow.cellAt h j (by omega)]
      simp [hj]
    · have hz : ss.length = 0 := by omega
      obtain rfl : ss = [] := List.eq_nil_of_length_eq_zero hz
      exact ⟨.inl ⟨rfl, _, _, rfl⟩, by simp, hs, _, _, rfl, by simp, h4⟩
/-- what a call says that hands back a list of strings of its own -/
def Gives (ss : List ByteArray) (w : World) (e : Ending) (w' : World) : Prop := ∃ u, e = .returned u ∧ OwnS w.heap.size w' u ss ∧ Below w.heap.size w w'
theorem infoStr : (Tryd.prog.info? 9).map (fun i => (i.zero, i.size, i.bytes)) = some (some (.string ⟨#[]⟩), 1, 16) := by kernel_rfl
theorem below_append {w w2 w3 w4 : World} {u : Value} {P : List ByteArray} (h : Below w.heap.size w w3) (hu : OwnS w.heap.size w2 u P) (hg : w3.grownBy w4 u.ownBlock) : Below w.heap.size w w4 :=
  h.grown hg h.size (fun q hq => (World.ownsRow.lt (w := w2) (base := w.heap.size) hu q hq).1)
theorem OwnS.snoc {B : Nat} {w : World} {v : Value} {P : List ByteArray} {R : ByteArray} (h : w.ownsRow B 9 1 v (P.length + 1) (P.map Value.string ++ [Value.string R])) : OwnS B w v (P ++ [R]) := by
  unfold OwnS
  rw [List.length_append, List.map_append]
  exact h
theorem pathB_big {l : List ByteArray} (h : 2 ≤ l.length) (i : Nat) : pathB l i = if i < half l.length then pathB (l.take (half l.length)) i ++ [rootB (l.drop (half l.length))] else pathB (l.drop (half l.length)) (i - half l.length) ++ [rootB (l.take (half l.length))] := by rw [pathB, dif_pos h]
theorem pathB_small {l : List ByteArray} (h : ¬ 2 ≤ l.length) (i : Nat) : pathB l i = [] := by rw [pathB, dif_neg h]
theorem pathB_small_all : ∀ (n : Nat) (l : List ByteArray) (i : Nat), l.length = n → Small l → Small (pathB l i) ∧ (pathB l i).length ≤ l.length := by
  intro n
  induction n using Nat.strongRecOn with
  | _ n ih =>
    intro l i hl hS
    by_cases h2 : 2 ≤ l.length
    · have k1 := half_pos h2
      have k2 := half_lt h2
      rw [pathB_big h2]
      split
      · obtain ⟨a1, a2⟩ := ih _ (by omega) (l.take (half l.length)) i (take_length h2) (hS.take _)
        refine ⟨fun s hs => ?_, ?_⟩
        · rcases List.mem_append.1 hs with hs | hs
          · exact a1 s hs
          · simp only [List.mem_singleton] at hs; subst hs; exact rootB_size (hS.drop _)
        · rw [take_length h2] at a2; simp; omega
      · obtain ⟨a1, a2⟩ := ih _ (by omega) (l.drop (half l.length)) (i - half l.length) (drop_length h2) (hS.drop _)
        refine ⟨fun s hs => ?_, ?_⟩
        · rcases List.mem_append.1 hs with hs | hs
          · exact a1 s hs
          · simp only [List.mem_singleton] at hs; subst hs; exact rootB_size (hS.take _)
        · rw [drop_length h2] at a2; simp; omega
    · rw [pathB_small h2]
      exact ⟨fun s hs => by simp at hs, by simp⟩
end Go.Proofs.YtcdnddjoonecdaaDoor

set_option linter.unusedVariables false
set_option maxRecDepth 100000
namespace Go.Proofs.YtcdnddjoonecdaaDoor
open Go.RowKit
/-- every string of a list is a digest -/
def digsB (ss : List ByteArray) : Bool := ss.all isB
theorem digsB_is {ss : List ByteArray} (h : digsB ss = true) : ∀ s ∈ ss, isB s = true := by
  unfold digsB at h; rw [List.all_eq_true] at h; exact h
theorem isB_size {s : ByteArray} (h : isB s = true) : s.size = 16 := by
  unfold isB at h
  simp only [Bool.and_eq_true, decide_eq_true_eq] at h
  omega
theorem digsB_small {ss : List ByteArray} (h : digsB ss = true) : Small ss := fun s hs => by
  have := isB_size (digsB_is h s hs); omega
theorem digests_empty (a : Option Addr) (cap : Nat) (w : World) :
    Calls Tryd.prog 53 #[.slice a 0 cap] w fun e w' => e = .returned (.bool (digsB [])) ∧ w = w' := by
  go_enter Tryd.func53, Tryd.ntmps53
  go_wp2_with fail
  refine wp_loop_rounds 1 ?_
  rw [rounds_succ]
  go_wp2_with fail
  go_ret
  exact ⟨rfl, rfl⟩
theorem digests_full (b off cap : Nat) (ss : List ByteArray) (w : World) (h0 : 0 < ss.length) (hl : ss.length ≤ maxLen) (hsz : ∀ s ∈ ss, s.size ≤ maxLen) (hc : ∀ j (hj : j < ss.length), w.cell? ⟨b, off + j, none⟩ = some (.string ss[j])) :
    Calls Tryd.prog 53 #[.slice (some ⟨b, off, none⟩) ss.length cap] w fun e w' => e = .returned (.bool (digsB ss)) ∧ w = w' := by
  unfold maxLen at hl
  have HC := Lib.hid hc
  have HS := Lib.hid hsz
  clear hc hsz
  go_enter Tryd.func53, Tryd.ntmps53
  go_wp2_with fail
  go_loop [3] (fun i => ∃ k : Nat, k ≤ ss.length ∧ i = .int .i64 k ∧ Hid (∀ j (hj : j < ss.length), j < k → isB ss[j] = true)) (fun i => ss.length - (intOf i).toNat)
  case atStart => exact ⟨0, by omega, rfl, (show _ from fun j _ h => absurd h (by omega))⟩
  case round =>
    obtain ⟨k, hk, rfl, hx⟩ := hrel
    by_cases hlt : k < ss.length
    · have hcell := HC.out k hlt
      have hsz : ss[k].size ≤ maxLen := HS.out _ (List.getElem_mem hlt)
      have HSZ := Lib.hid hsz
      clear hsz
      by_cases hm : isB ss[k] = true
      · have HM := Lib.hid hm
        clear hm
        go_wp2_with fail
        refine (refis_any ss[k] _ HSZ.out).mono ?_
        rintro e w1 ⟨rfl, rfl⟩
        rw [HM.out]
        go_wp2_with fail
        go_round
        case rel =>
          refine ⟨k + 1, by omega, by go_num, (show _ from fun j hj h => ?_)⟩
          by_cases e : j = k
          · subst e; exact HM.out
          · exact hx.out j hj (by omega)
        case measure => simp [intOf]; omega
      · have hf : isB ss[k] = false := by simpa using hm
        clear hm
        have HF := Lib.hid hf
        have hb : digsB ss = false := by
          unfold digsB
          rw [List.all_eq_false]
          exact ⟨_, List.getElem_mem hlt, by rw [hf]; simp⟩
        have HB := Lib.hid hb
        clear hb hf
        go_wp2_with fail
        refine (refis_any ss[k] _ HSZ.out).mono ?_
        rintro e w1 ⟨rfl, rfl⟩
        rw [HF.out]
        go_wp2_with fail
        go_ret
        exact ⟨by rw [HB.out]; rfl, rfl⟩
    · obtain rfl : k = ss.length := by omega
      have hb : digsB ss = true := by
        unfold digsB
        rw [List.all_eq_true]
        intro s hs
        obtain ⟨j, hj, rfl⟩ := List.getElem_of_mem hs
        exact hx.out j hj hj
      have HB := Lib.hid hb
      clear hb
      go_wp2_with fail
      go_ret
      exact ⟨by rw [HB.out]; rfl, rfl⟩
theorem digests_any (v : Value) (ss : List ByteArray) (w : World) (h : StrsOk w v ss) (hl : ss.length ≤ maxLen) :
    Calls Tryd.prog 53 #[v] w fun e w' => e = .returned (.bool (digsB ss)) ∧ w = w' := by
  rcases h.at_ with ⟨rfl, a, cap, rfl⟩ | ⟨h0, b, off, cap, rfl, hc⟩
  · exact digests_empty a cap w
  · exact digests_full b off cap ss w h0 hl h.sizes hc
theorem lenB_big {n : Nat} (h : 2 ≤ n) (i : Nat) : lenB n i = if i < half n then 1 + lenB (half n) i else 1 + lenB (n - half n) (i - half n) := by rw [lenB, dif_pos h]
theorem lenB_small {n : Nat} (h : ¬ 2 ≤ n) (i : Nat) : lenB n i = 0 := by rw [lenB, dif_neg h]
theorem lenB_le : ∀ (n : Nat) (i : Nat), lenB n i ≤ n := by
  intro n
  induction n using Nat.strongRecOn with
  | _ n ih =>
    intro i
    by_cases h2 : 2 ≤ n
    · have k1 := half_pos h2
      have k2 := half_lt h2
      have h3 := half_le h2
      rw [lenB_big h2]
      split
      · have := ih (half n) (by omega) i; omega
      · have := ih (n - half n) (by omega) (i - half n); omega
    · rw [lenB_small h2]; omega
set_option maxHeartbeats 400000 in
theorem reflen_step (n i : Nat) (w : World) (h2 : 2 ≤ n) (hn : n ≤ 1099511627776) (hi : i < n)
    (hlo : i < half n → Calls Tryd.prog 52 #[.int .i64 (half n : Nat), .int .i64 (i : Int)] w fun e w' => e = .returned (.int .i64 (lenB (half n) i : Nat)) ∧ w = w')
    (hhi : half n ≤ i → Calls Tryd.prog 52 #[.int .i64 ((n - half n : Nat) : Int), .int .i64 ((i - half n : Nat) : Int)] w fun e w' => e = .returned (.int .i64 (lenB (n - half n) (i - half n) : Nat)) ∧ w = w') :
    Calls Tryd.prog 52 #[.int .i64 (n : Int), .int .i64 (i : Int)] w fun e w' => e = .returned (.int .i64 (lenB n i : Nat)) ∧ w = w' := by
  have HLO := Lib.hid hlo
  have HHI := Lib.hid hhi
  clear hlo hhi
  have k1 := half_pos h2
  have k2 := half_lt h2
  have l1 := lenB_le (half n) i
  have l2 := lenB_le (n - half n) (i - half n)
  have t1 : ((n : Int) == 1) = false := beq_eq_false_iff_ne.2 (by omega)
  have HB := Lib.hid (lenB_big h2 i)
  by_cases hlt : i < half n
  · rw [if_pos hlt] at HB
    go_enter Tryd.func52, Tryd.ntmps52
    go_wp2_with fail
    refine (half_any _ _ h2 hn).mono ?_
    rintro e w1 ⟨rfl, rfl⟩
    go_wp2_with fail
    refine (HLO.out hlt).mono ?_
    rintro e w1 ⟨rfl, rfl⟩
    go_wp2_with fail
    go_ret
    exact ⟨by rw [HB.out]; go_num, rfl⟩
  · rw [if_neg hlt] at HB
    have i4 : IntKind.i64.wrap ((i : Int) - (half n : Int)) = ((i - half n : Nat) : Int) := by rw [IntWalk.i64_in _ (by omega)]; omega
    have i5 : IntKind.i64.wrap ((n : Int) - (half n : Int)) = ((n - half n : Nat) : Int) := by rw [IntWalk.i64_in _ (by omega)]; omega
    go_enter Tryd.func52, Tryd.ntmps52
    go_wp2_with fail
    refine (half_any _ _ h2 hn).mono ?_
    rintro e w1 ⟨rfl, rfl⟩
    go_wp2_with fail
    refine (HHI.out (by omega)).mono ?_
    rintro e w1 ⟨rfl, rfl⟩
    go_wp2_with fail
    go_ret
    exact ⟨by rw [HB.out]; go_num, rfl⟩
theorem reflen_one (i : Int) (w : World) :
    Calls Tryd.prog 52 #[.int .i64 1, .int .i64 i] w fun e w' => e = .returned (.int .i64 0) ∧ w = w' := by
  go_enter Tryd.func52, Tryd.ntmps52
  go_wp2_with fail
  go_ret
  exact ⟨rfl, rfl⟩
theorem reflen_any : ∀ (n i : Nat) (w : World), n ≤ 1099511627776 → i < n →
    Calls Tryd.prog 52 #[.int .i64 (n : Int), .int .i64 (i : Int)] w fun e w' => e = .returned (.int .i64 (lenB n i : Nat)) ∧ w = w' := by
  intro n
  induction n using Nat.strongRecOn with
  | _ n ih =>
    intro i w hn hi
    by_cases h2 : 2 ≤ n
    · have k1 := half_pos h2
      have k2 := half_lt h2
      exact reflen_step n i w h2 hn hi (fun h => ih _ (by omega) i w (by omega) h) (fun h => ih _ (by omega) _ w (by omega) (by omega))
    · obtain rfl : n = 1 := by omega
      rw [lenB_small h2]
      exact reflen_one _ w
end Go.Proofs.YtcdnddjoonecdaaDoor

set_option linter.unusedVariables false
set_option maxRecDepth 100000
namespace Go.Proofs.YtcdnddjoonecdaaDoor
open Go.RowKit
theorem upB_lo {n : Nat} (h : 2 ≤ n) (i : Nat) (hi : i < half n) (d x : ByteArray) (q : List ByteArray) : upB n i d (q ++ [x]) = nodeB (upB (half n) i d q) x := by
  rw [upB, dif_pos h, if_pos hi]; simp
theorem upB_hi {n : Nat} (h : 2 ≤ n) (i : Nat) (hi : ¬ i < half n) (d x : ByteArray) (q : List ByteArray) : upB n i d (q ++ [x]) = nodeB x (upB (n - half n) (i - half n) d q) := by
  rw [upB, dif_pos h, if_neg hi]; simp
theorem upB_small {n : Nat} (h : ¬ 2 ≤ n) (i : Nat) (d : ByteArray) (p : List ByteArray) : upB n i d p = d := by rw [upB, dif_neg h]
theorem upB_size {n i : Nat} {d : ByteArray} {p : List ByteArray} (h : d.size ≤ 2147483648) : (upB n i d p).size ≤ 2147483648 := by
  by_cases h2 : 2 ≤ n
  · rw [upB, dif_pos h2]
    split <;> (rw [nodeB_size]; omega)
  · rw [upB_small h2]; exact h
/-- a list without its last string -/
theorem StrsOk.init {w : World} {b off cap : Nat} {q : List ByteArray} {x : ByteArray} (h : StrsOk w (.slice (Option.some ⟨b, off, Option.none⟩) (q.length + 1) cap) (q ++ [x])) : StrsOk w (.slice (Option.some ⟨b, off, Option.none⟩) q.length cap) q := by
  obtain ⟨b', off', cap', e, h1, h3, hc⟩ := h.open_ (by simp)
  simp only [Value.slice.injEq, Option.some.injEq, Addr.mk.injEq] at e
  obtain ⟨⟨rfl, rfl, _⟩, _, rfl⟩ := e
  have hs : ∀ s ∈ q, s.size ≤ maxLen := fun s hs => h.sizes s (by simp [hs])
  simp only [List.length_append, List.length_singleton] at h1
  by_cases h0 : 0 < q.length
  · exact StrsOk.mk' h0 (by omega) h3 hs (fun j hj => by rw [hc j (by simp; omega)]; rw [List.getElem_append_left hj])
  · obtain rfl : q = [] := List.eq_nil_of_length_eq_zero (by omega)
    exact ⟨.inl ⟨rfl, _, _, rfl⟩, by simp, hs, _, _, rfl, by simp, h3⟩
theorem StrsOk.snoc_open {w : World} {v : Value} {q : List ByteArray} {x : ByteArray} (h : StrsOk w v (q ++ [x])) :
    ∃ b off cap, v = .slice (Option.some ⟨b, off, Option.none⟩) (q.length + 1) cap ∧ q.length + 1 ≤ cap ∧ cap ≤ maxLen ∧ w.cell? ⟨b, off + q.length, Option.none⟩ = Option.some (.string x) ∧ x.size ≤ maxLen ∧
      ∀ w', Below w.heap.size w w' → StrsOk w' (.slice (Option.some ⟨b, off, Option.none⟩) q.length cap) q := by
  obtain ⟨b, off, cap, rfl, h1, h3, hc⟩ := h.open_ (by simp)
  have hc' := hc q.length (by simp)
  simp only [List.length_append, List.length_singleton] at h h1 ⊢
  refine ⟨b, off, cap, rfl, h1, h3, ?_, h.sizes x (by simp), fun w' hb => StrsOk.init (h.below hb)⟩
  rw [hc']; simp
set_option maxHeartbeats 1000000 in
theorem refup_lo (n i : Nat) (d x R : ByteArray) (r b off cap : Nat) (w : World) (h2 : 2 ≤ n) (hn : n ≤ 1099511627776) (hi : i < half n) (hcap : r + 1 ≤ cap) (hcm : cap ≤ maxLen)
    (hx : w.cell? ⟨b, off + r, none⟩ = some (.string x)) (hR : R.size ≤ 2147483648) (hxs : x.size ≤ 2147483648)
    (hlo : ∀ w', Below w.heap.size w w' → Calls Tryd.prog 34 #[.int .i64 (half n : Nat), .int .i64 (i : Int), .string d, .slice (some ⟨b, off, none⟩) r cap] w' fun e w'' => e = .returned (.string R) ∧ Below w'.heap.size w' w'') :
    Calls Tryd.prog 34 #[.int .i64 (n : Int), .int .i64 (i : Int), .string d, .slice (some ⟨b, off, none⟩) (r + 1) cap] w fun e w' => e = .returned (.string (nodeB R x)) ∧ Below w.heap.size w w' := by
  have HLO := Lib.hid hlo
  have HR := Lib.hid hR
  have HX := Lib.hid hxs
  clear hlo hR hxs
  have k1 := half_pos h2
  have k2 := half_lt h2
  have t1 : ((n : Int) == 1) = false := beq_eq_false_iff_ne.2 (by omega)
  have i5 : IntKind.i64.wrap (((r + 1 : Nat) : Int) - 1) = (r : Int) := by rw [IntWalk.i64_in _ (by unfold maxLen at hcm; omega)]; omega
  have i6 : IntKind.i64.wrap ((r : Int) + 1 - 1) = (r : Int) := by rw [IntWalk.i64_in _ (by unfold maxLen at hcm; omega)]; omega
  have i7 : (0 : Int) ≤ (r : Int) := by omega
  have i8 : (r : Int) ≤ (cap : Int) := by omega
  unfold maxLen at hcm
  go_enter Tryd.func34, Tryd.ntmps34
  go_wp2_with fail
  refine (half_any _ _ h2 hn).mono ?_
  rintro e w1 ⟨rfl, rfl⟩
  go_wp2_with fail
  refine (HLO.out _ (Below.refl _ _)).mono ?_
  rintro e w2 ⟨rfl, hb2⟩
  go_wp2_with fail
  refine (refnode_any _ _ _ HR.out HX.out).mono ?_
  rintro e w3 ⟨rfl, hb3⟩
  go_wp2_with fail
  go_ret
  exact ⟨rfl, hb2.trans (hb3.mono hb2.size)⟩
set_option maxHeartbeats 1000000 in
theorem refup_hi (n i : Nat) (d x R : ByteArray) (r b off cap : Nat) (w : World) (h2 : 2 ≤ n) (hn : n ≤ 1099511627776) (hi : ¬ i < half n) (hin : i < n) (hcap : r + 1 ≤ cap) (hcm : cap ≤ maxLen)
    (hx : w.cell? ⟨b, off + r, none⟩ = some (.string x)) (hR : R.size ≤ 2147483648) (hxs : x.size ≤ 2147483648)
    (hhi : ∀ w', Below w.heap.size w w' → Calls Tryd.prog 34 #[.int .i64 ((n : Int) - (half n : Int)), .int .i64 ((i : Int) - (half n : Int)), .string d, .slice (some ⟨b, off, none⟩) r cap] w' fun e w'' => e = .returned (.string R) ∧ Below w'.heap.size w' w'') :
    Calls Tryd.prog 34 #[.int .i64 (n : Int), .int .i64 (i : Int), .string d, .slice (some ⟨b, off, none⟩) (r + 1) cap] w fun e w' => e = .returned (.string (nodeB x R)) ∧ Below w.heap.size w w' := by
  have HHI := Lib.hid hhi
  have HR := Lib.hid hR
  have HX := Lib.hid hxs
  clear hhi hR hxs
  have k1 := half_pos h2
  have k2 := half_lt h2
  have t1 : ((n : Int) == 1) = false := beq_eq_false_iff_ne.2 (by omega)
  have i3 : IntKind.i64.wrap ((n : Int) - (half n : Int)) = (n : Int) - (half n : Int) := IntWalk.i64_in _ (by omega)
  have i4 : IntKind.i64.wrap ((i : Int) - (half n : Int)) = (i : Int) - (half n : Int) := IntWalk.i64_in _ (by omega)
  have i5 : IntKind.i64.wrap (((r + 1 : Nat) : Int) - 1) = (r : Int) := by rw [IntWalk.i64_in _ (by unfold maxLen at hcm; omega)]; omega
  have i6 : IntKind.i64.wrap ((r : Int) + 1 - 1) = (r : Int) := by rw [IntWalk.i64_in _ (by unfold maxLen at hcm; omega)]; omega
  have i7 : (0 : Int) ≤ (r : Int) := by omega
  have i8 : (r : Int) ≤ (cap : Int) := by omega
  unfold maxLen at hcm
  go_enter Tryd.func34, Tryd.ntmps34
  go_wp2_with fail
  refine (half_any _ _ h2 hn).mono ?_
  rintro e w1 ⟨rfl, rfl⟩
  go_wp2_with fail
  refine (HHI.out _ (Below.refl _ _)).mono ?_
  rintro e w2 ⟨rfl, hb2⟩
  go_wp2_with fail
  refine (refnode_any _ _ _ HX.out HR.out).mono ?_
  rintro e w3 ⟨rfl, hb3⟩
  go_wp2_with fail
  go_ret
  exact ⟨rfl, hb2.trans (hb3.mono hb2.size)⟩
theorem refup_one (i : Int) (d : ByteArray) (v : Value) (w : World) :
    Calls Tryd.prog 34 #[.int .i64 1, .int .i64 i, .string d, v] w fun e w' => e = .returned (.string d) ∧ Below w.heap.size w w' := by
  go_enter Tryd.func34, Tryd.ntmps34
  go_wp2_with fail
  go_ret
  exact ⟨rfl, Below.refl _ _⟩
/-- a list of some length ends with a string -/
theorem snoc_of {p : List ByteArray} (h : p ≠ []) : ∃ q x, p = q ++ [x] := ⟨p.dropLast, p.getLast h, (List.dropLast_concat_getLast h).symm⟩
theorem refup_any : ∀ (n i : Nat) (d : ByteArray) (p : List ByteArray) (v : Value) (w : World), n ≤ 1099511627776 → i < n → p.length = lenB n i → d.size ≤ 2147483648 → Small p → StrsOk w v p →
    Calls Tryd.prog 34 #[.int .i64 (n : Int), .int .i64 (i : Int), .string d, v] w fun e w' => e = .returned (.string (upB n i d p)) ∧ Below w.heap.size w w' := by
  intro n
  induction n using Nat.strongRecOn with
  | _ n ih =>
    intro i d p v w hn hi hl hd hS hok
    by_cases h2 : 2 ≤ n
    · have k1 := half_pos h2
      have k2 := half_lt h2
      rw [lenB_big h2] at hl
      obtain ⟨q, x, rfl⟩ := snoc_of (p := p) (by intro e; subst e; simp at hl; split at hl <;> omega)
      obtain ⟨b, off, cap, rfl, h1, h3, hx, hxs, hq⟩ := hok.snoc_open
      have hSq : Small q := fun s hs => hS s (by simp [hs])
      have hSx : x.size ≤ 2147483648 := hS x (by simp)
      simp only [List.length_append, List.length_singleton] at hl
      by_cases hlt : i < half n
      · rw [if_pos hlt] at hl
        rw [upB_lo h2 i hlt]
        exact refup_lo n i d x _ q.length b off cap w h2 hn hlt h1 h3 hx (upB_size hd) hSx (fun w' hb => ih (half n) k2 i d q _ w' (by omega) hlt (by omega) hd hSq (hq w' hb))
      · rw [if_neg hlt] at hl
        rw [upB_hi h2 i hlt]
        refine refup_hi n i d x _ q.length b off cap w h2 hn hlt hi h1 h3 hx (upB_size hd) hSx (fun w' hb => ?_)
        have e1 : (n : Int) - (half n : Int) = ((n - half n : Nat) : Int) := by omega
        have e2 : (i : Int) - (half n : Int) = ((i - half n : Nat) : Int) := by omega
        rw [e1, e2]
        exact ih (n - half n) (by omega) (i - half n) d q _ w' (by omega) (by omega) (by omega) hd hSq (hq w' hb)
    · obtain rfl : n = 1 := by omega
      rw [upB_small h2]
      exact refup_one _ d v w
end Go.Proofs.YtcdnddjoonecdaaDoor

set_option linter.unusedVariables false
set_option maxRecDepth 100000
namespace Go.Proofs.YtcdnddjoonecdaaDoor
open Go.RowKit
end Go.Proofs.YtcdnddjoonecdaaDoor

set_option linter.unusedVariables false
set_option maxRecDepth 100000
namespace Go.Proofs.YtcdnddjoonecdaaDoor
open Go.RowKit
/-- a path proves an element at a place -/
def checkB (root : ByteArray) (n i : Int) (leaf : ByteArray) (p : List ByteArray) : Bool :=
  decide (n ≤ 1000000) && decide (0 ≤ i) && decide (i < n) && decide (p.length = lenB n.toNat i.toNat) && digsB p && isB leaf && decide (upB n.toNat i.toNat leaf p = root)
theorem checkB_iff (root : ByteArray) (n i : Int) (leaf : ByteArray) (p : List ByteArray) : checkB root n i leaf p = true ↔
    n ≤ 1000000 ∧ 0 ≤ i ∧ i < n ∧ p.length = lenB n.toNat i.toNat ∧ digsB p = true ∧ isB leaf = true ∧ upB n.toNat i.toNat leaf p = root := by
  unfold checkB; simp [and_assoc]
theorem refcheck_big (v : Value) (root leaf : ByteArray) (n i : Int) (w : World) (hn : 1000000 < n) :
    Calls Tryd.prog 33 #[.string root, .int .i64 n, .int .i64 i, .string leaf, v] w fun e w' => e = .returned (.bool false) ∧ w = w' := by
  go_enter Tryd.func33, Tryd.ntmps33
  go_wp2_with fail
  go_ret
  exact ⟨rfl, rfl⟩
theorem refcheck_neg (v : Value) (root leaf : ByteArray) (n i : Int) (w : World) (hn : ¬ 1000000 < n) (hi : i < 0) :
    Calls Tryd.prog 33 #[.string root, .int .i64 n, .int .i64 i, .string leaf, v] w fun e w' => e = .returned (.bool false) ∧ w = w' := by
  go_enter Tryd.func33, Tryd.ntmps33
  go_wp2_with fail
  go_ret
  exact ⟨rfl, rfl⟩
theorem refcheck_past (v : Value) (root leaf : ByteArray) (n i : Int) (w : World) (hn : ¬ 1000000 < n) (hi : ¬ i < 0) (hi2 : n ≤ i) :
    Calls Tryd.prog 33 #[.string root, .int .i64 n, .int .i64 i, .string leaf, v] w fun e w' => e = .returned (.bool false) ∧ w = w' := by
  go_enter Tryd.func33, Tryd.ntmps33
  go_wp2_with fail
  go_ret
  exact ⟨rfl, rfl⟩
theorem refcheck_len (a : Option Addr) (p : List ByteArray) (cap : Nat) (root leaf : ByteArray) (n i : Nat) (w : World) (hn : ¬ 1000000 < (n : Int)) (hi2 : i < n) (hl : p.length ≠ lenB n i) :
    Calls Tryd.prog 33 #[.string root, .int .i64 (n : Int), .int .i64 (i : Int), .string leaf, .slice a p.length cap] w fun e w' => e = .returned (.bool false) ∧ w = w' := by
  have t1 : decide ((i : Int) < 0) = false := by simp
  have t2 : decide (n ≤ i) = false := by simp; omega
  have t3 : ((p.length : Int) != (lenB n i : Nat)) = true := by simp; omega
  go_enter Tryd.func33, Tryd.ntmps33
  go_wp2_with fail
  refine (reflen_any n i _ (by omega) hi2).mono ?_
  rintro e w1 ⟨rfl, rfl⟩
  go_wp2_with fail
  go_ret
  exact ⟨rfl, rfl⟩
theorem refcheck_digs (v : Value) (p : List ByteArray) (root leaf : ByteArray) (n i : Nat) (w : World) (h : StrsOk w v p) (hn : ¬ 1000000 < (n : Int)) (hi2 : i < n) (hl : p.length = lenB n i) (hd : digsB p = false) :
    Calls Tryd.prog 33 #[.string root, .int .i64 (n : Int), .int .i64 (i : Int), .string leaf, v] w fun e w' => e = .returned (.bool false) ∧ w = w' := by
  obtain ⟨a, cap, rfl, hc1, hc2⟩ := h.room
  have H := Lib.hid h
  have HD := Lib.hid hd
  clear h hd
  have hlen := H.out.len
  have t1 : decide ((i : Int) < 0) = false := by simp
  have t2 : decide (n ≤ i) = false := by simp; omega
  have t3 : ((p.length : Int) != (lenB n i : Nat)) = false := by simp; omega
  have HLN := Lib.hid hl
  clear hl
  go_enter Tryd.func33, Tryd.ntmps33
  go_wp2_with fail
  refine (reflen_any n i _ (by omega) hi2).mono ?_
  rintro e w1 ⟨rfl, rfl⟩
  go_wp2_with fail
  refine (digests_any _ p _ H.out hlen).mono ?_
  rintro e w1 ⟨rfl, rfl⟩
  rw [HD.out]
  go_wp2_with fail
  go_ret
  exact ⟨rfl, rfl⟩
theorem refcheck_leaf (v : Value) (p : List ByteArray) (root leaf : ByteArray) (n i : Nat) (w : World) (h : StrsOk w v p) (hn : ¬ 1000000 < (n : Int)) (hi2 : i < n) (hl : p.length = lenB n i) (hd : digsB p = true) (hls : leaf.size ≤ maxLen) (hf : isB leaf = false) :
    Calls Tryd.prog 33 #[.string root, .int .i64 (n : Int), .int .i64 (i : Int), .string leaf, v] w fun e w' => e = .returned (.bool false) ∧ w = w' := by
  obtain ⟨a, cap, rfl, hc1, hc2⟩ := h.room
  have H := Lib.hid h
  have HD := Lib.hid hd
  have HF := Lib.hid hf
  have HL := Lib.hid hls
  clear h hd hf hls
  have hlen := H.out.len
  have t1 : decide ((i : Int) < 0) = false := by simp
  have t2 : decide (n ≤ i) = false := by simp; omega
  have t3 : ((p.length : Int) != (lenB n i : Nat)) = false := by simp; omega
  have HLN := Lib.hid hl
  clear hl
  go_enter Tryd.func33, Tryd.ntmps33
  go_wp2_with fail
  refine (reflen_any n i _ (by omega) hi2).mono ?_
  rintro e w1 ⟨rfl, rfl⟩
  go_wp2_with fail
  refine (digests_any _ p _ H.out hlen).mono ?_
  rintro e w1 ⟨rfl, rfl⟩
  rw [HD.out]
  go_wp2_with fail
  refine (refis_any leaf _ HL.out).mono ?_
  rintro e w1 ⟨rfl, rfl⟩
  rw [HF.out]
  go_wp2_with fail
  go_ret
  exact ⟨rfl, rfl⟩
theorem refcheck_all (v : Value) (p : List ByteArray) (root leaf : ByteArray) (n i : Nat) (w : World) (h : StrsOk w v p) (hn : ¬ 1000000 < (n : Int)) (hi2 : i < n) (hl : p.length = lenB n i) (hd : digsB p = true) (hls : leaf.size ≤ maxLen) (hf : isB leaf = true) :
    Calls Tryd.prog 33 #[.string root, .int .i64 (n : Int), .int .i64 (i : Int), .string leaf, v] w fun e w' => e = .returned (.bool (decide (upB n i leaf p = root))) ∧ Below w.heap.size w w' := by
  obtain ⟨a, cap, rfl, hc1, hc2⟩ := h.room
  have H := Lib.hid h
  have HD := Lib.hid hd
  have HF := Lib.hid hf
  have HL := Lib.hid hls
  have HS : Hid (leaf.size ≤ 2147483648) := Lib.hid (by have := isB_size hf; omega)
  clear h hd hf hls
  have hlen := H.out.len
  have t1 : decide ((i : Int) < 0) = false := by simp
  have t2 : decide (n ≤ i) = false := by simp; omega
  have t3 : ((p.length : Int) != (lenB n i : Nat)) = false := by simp; omega
  have HLN := Lib.hid hl
  clear hl
  go_enter Tryd.func33, Tryd.ntmps33
  go_wp2_with fail
  refine (reflen_any n i _ (by omega) hi2).mono ?_
  rintro e w1 ⟨rfl, rfl⟩
  go_wp2_with fail
  refine (digests_any _ p _ H.out hlen).mono ?_
  rintro e w1 ⟨rfl, rfl⟩
  rw [HD.out]
  go_wp2_with fail
  refine (refis_any leaf _ HL.out).mono ?_
  rintro e w1 ⟨rfl, rfl⟩
  rw [HF.out]
  go_wp2_with fail
  refine (refup_any n i leaf p _ _ (by omega) hi2 HLN.out HS.out (digsB_small HD.out) H.out).mono ?_
  rintro e w2 ⟨rfl, hb2⟩
  go_wp2_with fail
  go_ret
  exact ⟨by simp only [str_beq]; rfl, hb2⟩
theorem refcheck_any (v : Value) (p : List ByteArray) (root leaf : ByteArray) (n i : Int) (w : World) (h : StrsOk w v p) (hls : leaf.size ≤ maxLen) :
    Calls Tryd.prog 33 #[.string root, .int .i64 n, .int .i64 i, .string leaf, v] w fun e w' => e = .returned (.bool (checkB root n i leaf p)) ∧ Below w.heap.size w w' := by
  have no : (checkB root n i leaf p = false) → Calls Tryd.prog 33 #[.string root, .int .i64 n, .int .i64 i, .string leaf, v] w (fun e w' => e = .returned (.bool false) ∧ w = w') →
      Calls Tryd.prog 33 #[.string root, .int .i64 n, .int .i64 i, .string leaf, v] w fun e w' => e = .returned (.bool (checkB root n i leaf p)) ∧ Below w.heap.size w w' := by
    intro e hc
    refine hc.mono ?_
    rintro e' w' ⟨rfl, rfl⟩
    exact ⟨by rw [e], Below.refl _ _⟩
  have hiff := checkB_iff root n i leaf p
  have ff : ∀ {P : Prop}, (checkB root n i leaf p = true → P) → ¬ P → checkB root n i leaf p = false := fun f h => by
    cases e : checkB root n i leaf p with
    | false => rfl
    | true => exact absurd (f e) h
  by_cases c1 : 1000000 < n
  · exact no (ff (fun h => (hiff.1 h).1) (by omega)) (refcheck_big v root leaf n i w c1)
  by_cases c2 : i < 0
  · exact no (ff (fun h => (hiff.1 h).2.1) (by omega)) (refcheck_neg v root leaf n i w c1 c2)
  by_cases c3 : n ≤ i
  · exact no (ff (fun h => (hiff.1 h).2.2.1) (by omega)) (refcheck_past v root leaf n i w c1 c2 c3)
  obtain ⟨m, rfl⟩ : ∃ m : Nat, n = m := ⟨n.toNat, by omega⟩
  obtain ⟨k, rfl⟩ : ∃ k : Nat, i = k := ⟨i.toNat, by omega⟩
  simp only [Int.toNat_natCast] at hiff
  by_cases c4 : p.length = lenB m k
  · by_cases c5 : digsB p = true
    · by_cases c6 : isB leaf = true
      · refine (refcheck_all v p root leaf m k w h c1 (by omega) c4 c5 hls c6).mono ?_
        rintro e w' ⟨rfl, hb⟩
        refine ⟨?_, hb⟩
        congr 2
        by_cases c7 : upB m k leaf p = root
        · rw [decide_eq_true c7, hiff.2 ⟨by omega, by omega, by omega, c4, c5, c6, c7⟩]
        · rw [decide_eq_false c7, ff (fun h => (hiff.1 h).2.2.2.2.2.2) c7]
      · exact no (ff (fun h => (hiff.1 h).2.2.2.2.2.1) c6) (refcheck_leaf v p root leaf m k w h c1 (by omega) c4 c5 hls (by simpa using c6))
    · exact no (ff (fun h => (hiff.1 h).2.2.2.2.1) c5) (refcheck_digs v p root leaf m k w h c1 (by omega) c4 (by simpa using c5))
  · obtain ⟨a, cap, e, _, _⟩ := h.room
    subst e
    exact no (ff (fun h => (hiff.1 h).2.2.2.1) c4) (refcheck_len a p cap root leaf m k w c1 (by omega) c4)
end Go.Proofs.YtcdnddjoonecdaaDoor
