/-
  The walk of the statement that a link that proves that a list goes on from another binds the other, or two different texts have one digest.
-/
import Derived.Test.YtbiekbppenccdaaDoorTreeWBinds
set_option linter.unusedVariables false
namespace Go.Proofs.YtbiekbppenccdaaDoor
open Go.RowKit
theorem linkTextsB_size : ∀ (n m : Nat) (b : Bool) (old : ByteArray) (p : List ByteArray), 0 < m → m ≤ n → p.length = longB n m b → old.size ≤ 2147483648 → Small p → ∀ s ∈ linkTextsB n m b old p, s.size ≤ 1099511627776 := by
  intro n
  induction n using Nat.strongRecOn with
  | _ n ih =>
    intro m b old p hm0 hm hp ho hS s hs
    by_cases e : m = n
    · subst e; rw [linkTextsB_end] at hs; cases hs
    · have h2 : 2 ≤ n := by omega
      have k1 := half_pos h2
      have k2 := half_lt h2
      rw [longB_big b h2 e] at hp
      obtain ⟨q, x, rfl⟩ := snoc_of (p := p) (by intro e; subst e; simp at hp; split at hp <;> omega)
      simp only [List.length_append, List.length_singleton] at hp
      have hSq : Small q := fun s hs => hS s (by simp [hs])
      have hx := hS x (by simp)
      by_cases hi : m ≤ half n
      · rw [if_pos hi] at hp
        rw [linkTextsB_lo b h2 e hi] at hs
        rcases List.mem_append.1 hs with hs | hs
        · exact ih (half n) k2 m b old q hm0 hi (by omega) ho hSq s hs
        · simp only [List.mem_singleton] at hs
          subst hs
          exact nodeT_small (bothB_size _ _ _ _ _ ho hSq).2 hx
      · rw [if_neg hi] at hp
        rw [linkTextsB_hi b h2 e hi] at hs
        rcases List.mem_append.1 hs with hs | hs
        · rcases List.mem_append.1 hs with hs | hs
          · exact ih (n - half n) (by omega) (m - half n) false old q (by omega) (by omega) (by omega) ho hSq s hs
          · simp only [List.mem_singleton] at hs
            subst hs
            exact nodeT_small hx (bothB_size _ _ _ _ _ ho hSq).1
        · simp only [List.mem_singleton] at hs
          subst hs
          exact nodeT_small hx (bothB_size _ _ _ _ _ ho hSq).2
/-- what the last case of the statement comes to -/
structure Goes (a l p : List ByteArray) : Prop where
  pos : 0 < a.length
  len : p.length = longB l.length a.length true
  shown : Shown (textsB a ++ textsB l ++ textsB (l.take a.length) ++ linkTextsB l.length a.length true (rootS a) p)
theorem goes_of {a l p : List ByteArray} (ha : digsB a = true) (hl : digsB l = true) (hle : a.length ≤ l.length) (he : extB (rootS a) a.length (rootS l) l.length p = true) (hn : a ≠ l.take a.length) : Goes a l p := by
  have h0 : 0 < a.length := by
    by_cases h : 0 < a.length
    · exact h
    · have : a = [] := List.eq_nil_of_length_eq_zero (by omega)
      subst this
      exact absurd (by simp) hn
  rw [extB_iff] at he
  have h := he.2.2.2.2.2.2
  rw [if_neg (by omega)] at h
  simp only [Int.toNat_natCast] at h
  obtain ⟨h1, h2, h3⟩ := h
  refine ⟨h0, h1, ?_⟩
  have ht : (l.take a.length).length = a.length := by rw [List.length_take]; omega
  rcases link_binds _ l a.length true (rootS a) p rfl h0 hle h1 (h3.trans (rootS_yes hl)) with r | r
  · rw [h2, rootS_yes ha] at r
    rcases root_binds _ a (l.take a.length) rfl ht r with q | q
    · exact absurd q hn
    · refine q.mono fun x hx => ?_
      simp only [List.mem_append] at hx ⊢
      rcases hx with hx | hx <;> simp [hx]
  · refine r.mono fun x hx => ?_
    simp only [List.mem_append] at hx ⊢
    rcases hx with hx | hx <;> simp [hx]
theorem OwnS.grown_or {B : Nat} {w w' : World} {v : Value} {ss : List ByteArray} {row : Option Nat} (h : OwnS B w v ss) (hg : w.grownBy w' row) (hne : v.ownBlock = none ∨ v.ownBlock ≠ row) : OwnS B w' v ss := World.ownsRow.kept h hg hne
theorem own_apart {B1 B3 : Nat} {w w' : World} {u1 u3 : Value} {P1 P3 : List ByteArray} (h1 : OwnS B1 w u1 P1) (h3 : OwnS B3 w' u3 P3) (hB : w.heap.size ≤ B3) : u3.ownBlock = none ∨ u3.ownBlock ≠ u1.ownBlock := by
  rcases h3.size_eq with e | ⟨g, e, g1, _⟩
  · exact .inl e
  · right
    rw [e]
    exact Ne.symm (h1.not_new (k := g) (by omega))
theorem take_len_le {l : List ByteArray} {n m : Nat} (h : l.length ≤ n) : (l.take m).length ≤ n := by rw [List.length_take]; omega
theorem three_len {a b c : List ByteArray} (ha : a.length ≤ 21) (hb : b.length ≤ 21) (hc : c.length ≤ 21) : (a ++ b).length + c.length ≤ 1099511627776 := by rw [List.length_append]; omega

set_option maxRecDepth 100000 in
set_option maxHeartbeats 2000000 in
theorem walkCont1 (v : Value) (a : List ByteArray) (q : Value) (l : List ByteArray) (u : Value) (p : List ByteArray) (w : World) (hv : Hid (StrsOk w v a)) (hl : Hid (StrsOk w q l)) (hu : Hid (StrsOk w u p)) (ht : Hid (TabOk w)) (f1 : goodT a = false) :
    Calls Tryd.prog 8 #[v, q, u] w fun e w' => e = .returned (.bool true) ∧ Below w.heap.size w w' := by
  have FA := Lib.hid f1
  clear f1
  have HT0 := ht
  have HA0 := hv
  have HL0 := hl
  have HU0 := hu
  clear ht hv hl hu
  have D0 := Below.refl w.heap.size w
  go_enter Tryd.func8, Tryd.ntmps8
  go_wp2_with fail
  refine (thead_any _ HT0.out).mono ?_
  rintro e w1 ⟨rfl, hb⟩
  have HT1 := TabOk.kept HT0 hb
  have HA1 := StrsOk.kept HA0 hb
  have HL1 := StrsOk.kept HL0 hb
  have HU1 := StrsOk.kept HU0 hb
  have D1 := D0.trans (hb.mono D0.size)
  clear hb D0 HT0 HA0 HL0 HU0
  go_wp2_with fail
  refine (good_any _ a _ HA1.out).mono ?_
  rintro e wz ⟨rfl, rfl⟩
  rw [FA.out]
  go_wp2_with fail
  go_ret
  exact ⟨rfl, D1⟩
set_option maxRecDepth 100000 in
set_option maxHeartbeats 2000000 in
theorem walkCont2 (v : Value) (a : List ByteArray) (q : Value) (l : List ByteArray) (u : Value) (p : List ByteArray) (w : World) (hv : Hid (StrsOk w v a)) (hl : Hid (StrsOk w q l)) (hu : Hid (StrsOk w u p)) (ht : Hid (TabOk w)) (f1 : goodT a = true) (f2 : goodT l = false) :
    Calls Tryd.prog 8 #[v, q, u] w fun e w' => e = .returned (.bool true) ∧ Below w.heap.size w w' := by
  have FA := Lib.hid f1
  have FL := Lib.hid f2
  clear f1 f2
  have HT0 := ht
  have HA0 := hv
  have HL0 := hl
  have HU0 := hu
  clear ht hv hl hu
  have D0 := Below.refl w.heap.size w
  go_enter Tryd.func8, Tryd.ntmps8
  go_wp2_with fail
  refine (thead_any _ HT0.out).mono ?_
  rintro e w1 ⟨rfl, hb⟩
  have HT1 := TabOk.kept HT0 hb
  have HA1 := StrsOk.kept HA0 hb
  have HL1 := StrsOk.kept HL0 hb
  have HU1 := StrsOk.kept HU0 hb
  have D1 := D0.trans (hb.mono D0.size)
  clear hb D0 HT0 HA0 HL0 HU0
  go_wp2_with fail
  refine (good_any _ a _ HA1.out).mono ?_
  rintro e wz ⟨rfl, rfl⟩
  rw [FA.out]
  go_wp2_with fail
  refine (good_any _ l _ HL1.out).mono ?_
  rintro e wz ⟨rfl, rfl⟩
  rw [FL.out]
  go_wp2_with fail
  go_ret
  exact ⟨rfl, D1⟩
set_option maxRecDepth 100000 in
set_option maxHeartbeats 2000000 in
theorem walkCont3 (v : Value) (a : List ByteArray) (q : Value) (l : List ByteArray) (u : Value) (p : List ByteArray) (w : World) (hv : Hid (StrsOk w v a)) (hl : Hid (StrsOk w q l)) (hu : Hid (StrsOk w u p)) (ht : Hid (TabOk w)) (f1 : goodT a = true) (f2 : goodT l = true) (f3 : fewT p = false) :
    Calls Tryd.prog 8 #[v, q, u] w fun e w' => e = .returned (.bool true) ∧ Below w.heap.size w w' := by
  have FA := Lib.hid f1
  have FL := Lib.hid f2
  have FP := Lib.hid f3
  clear f1 f2 f3
  have HT0 := ht
  have HA0 := hv
  have HL0 := hl
  have HU0 := hu
  clear ht hv hl hu
  have D0 := Below.refl w.heap.size w
  go_enter Tryd.func8, Tryd.ntmps8
  go_wp2_with fail
  refine (thead_any _ HT0.out).mono ?_
  rintro e w1 ⟨rfl, hb⟩
  have HT1 := TabOk.kept HT0 hb
  have HA1 := StrsOk.kept HA0 hb
  have HL1 := StrsOk.kept HL0 hb
  have HU1 := StrsOk.kept HU0 hb
  have D1 := D0.trans (hb.mono D0.size)
  clear hb D0 HT0 HA0 HL0 HU0
  go_wp2_with fail
  refine (good_any _ a _ HA1.out).mono ?_
  rintro e wz ⟨rfl, rfl⟩
  rw [FA.out]
  go_wp2_with fail
  refine (good_any _ l _ HL1.out).mono ?_
  rintro e wz ⟨rfl, rfl⟩
  rw [FL.out]
  go_wp2_with fail
  refine (fewT_any _ p _ HU1.out).mono ?_
  rintro e wz ⟨rfl, rfl⟩
  rw [FP.out]
  go_wp2_with fail
  go_ret
  exact ⟨rfl, D1⟩
set_option maxRecDepth 100000 in
set_option maxHeartbeats 2000000 in
theorem walkCont4 (v : Value) (a : List ByteArray) (q : Value) (l : List ByteArray) (u : Value) (p : List ByteArray) (w : World) (hv : Hid (StrsOk w v a)) (hl : Hid (StrsOk w q l)) (hu : Hid (StrsOk w u p)) (ht : Hid (TabOk w)) (f1 : goodT a = true) (f2 : goodT l = true) (f3 : fewT p = true) (c : l.length < a.length) :
    Calls Tryd.prog 8 #[v, q, u] w fun e w' => e = .returned (.bool true) ∧ Below w.heap.size w w' := by
  have FA := Lib.hid f1
  have FL := Lib.hid f2
  have FP := Lib.hid f3
  clear f1 f2 f3
  have HT0 := ht
  have HA0 := hv
  have HL0 := hl
  have HU0 := hu
  clear ht hv hl hu
  have D0 := Below.refl w.heap.size w
  obtain ⟨xa, acap, rfl, ac1, ac2⟩ := HA0.out.room
  obtain ⟨ya, lcap, rfl, lc1, lc2⟩ := HL0.out.room
  go_enter Tryd.func8, Tryd.ntmps8
  go_wp2_with fail
  refine (thead_any _ HT0.out).mono ?_
  rintro e w1 ⟨rfl, hb⟩
  have HT1 := TabOk.kept HT0 hb
  have HA1 := StrsOk.kept HA0 hb
  have HL1 := StrsOk.kept HL0 hb
  have HU1 := StrsOk.kept HU0 hb
  have D1 := D0.trans (hb.mono D0.size)
  clear hb D0 HT0 HA0 HL0 HU0
  go_wp2_with fail
  refine (good_any _ a _ HA1.out).mono ?_
  rintro e wz ⟨rfl, rfl⟩
  rw [FA.out]
  go_wp2_with fail
  refine (good_any _ l _ HL1.out).mono ?_
  rintro e wz ⟨rfl, rfl⟩
  rw [FL.out]
  go_wp2_with fail
  refine (fewT_any _ p _ HU1.out).mono ?_
  rintro e wz ⟨rfl, rfl⟩
  rw [FP.out]
  go_wp2_with fail
  go_ret
  exact ⟨rfl, D1⟩
set_option maxRecDepth 100000 in
set_option maxHeartbeats 2000000 in
theorem walkCont5 (v : Value) (a : List ByteArray) (q : Value) (l : List ByteArray) (u : Value) (p : List ByteArray) (w : World) (hv : Hid (StrsOk w v a)) (hl : Hid (StrsOk w q l)) (hu : Hid (StrsOk w u p)) (ht : Hid (TabOk w)) (f1 : goodT a = true) (f2 : goodT l = true) (f3 : fewT p = true) (c : a.length ≤ l.length) (ex : extB (rootS a) a.length (rootS l) l.length p = false) :
    Calls Tryd.prog 8 #[v, q, u] w fun e w' => e = .returned (.bool true) ∧ Below w.heap.size w w' := by
  have FA := Lib.hid f1
  have FL := Lib.hid f2
  have FP := Lib.hid f3
  have NA := goodT_len f1
  have NL := goodT_len f2
  have DA := Lib.hid (goodT_digs f1)
  have DL := Lib.hid (goodT_digs f2)
  have SP := Lib.hid (fewT_small f3)
  have LP := Lib.hid (fewT_len f3)
  have Z1 := Lib.hid (rootS_size a)
  have Z2 := Lib.hid (rootS_size l)
  have EX := Lib.hid ex
  clear f1 f2 f3 ex
  have HT0 := ht
  have HA0 := hv
  have HL0 := hl
  have HU0 := hu
  clear ht hv hl hu
  have D0 := Below.refl w.heap.size w
  obtain ⟨xa, acap, rfl, ac1, ac2⟩ := HA0.out.room
  obtain ⟨ya, lcap, rfl, lc1, lc2⟩ := HL0.out.room
  go_enter Tryd.func8, Tryd.ntmps8
  go_wp2_with fail
  refine (thead_any _ HT0.out).mono ?_
  rintro e w1 ⟨rfl, hb⟩
  have HT1 := TabOk.kept HT0 hb
  have HA1 := StrsOk.kept HA0 hb
  have HL1 := StrsOk.kept HL0 hb
  have HU1 := StrsOk.kept HU0 hb
  have D1 := D0.trans (hb.mono D0.size)
  clear hb D0 HT0 HA0 HL0 HU0
  go_wp2_with fail
  refine (good_any _ a _ HA1.out).mono ?_
  rintro e wz ⟨rfl, rfl⟩
  rw [FA.out]
  go_wp2_with fail
  refine (good_any _ l _ HL1.out).mono ?_
  rintro e wz ⟨rfl, rfl⟩
  rw [FL.out]
  go_wp2_with fail
  refine (fewT_any _ p _ HU1.out).mono ?_
  rintro e wz ⟨rfl, rfl⟩
  rw [FP.out]
  go_wp2_with fail
  refine (rooted_any _ a _ HA1.out (by omega) HT1.out).mono ?_
  rintro e w2 ⟨rfl, hb⟩
  have HT2 := TabOk.kept HT1 hb
  have HA2 := StrsOk.kept HA1 hb
  have HL2 := StrsOk.kept HL1 hb
  have HU2 := StrsOk.kept HU1 hb
  have D2 := D1.trans (hb.mono D1.size)
  clear hb D1 HT1 HA1 HL1 HU1
  go_wp2_with fail
  refine (rooted_any _ l _ HL2.out (by omega) HT2.out).mono ?_
  rintro e w3 ⟨rfl, hb⟩
  have HT3 := TabOk.kept HT2 hb
  have HA3 := StrsOk.kept HA2 hb
  have HL3 := StrsOk.kept HL2 hb
  have HU3 := StrsOk.kept HU2 hb
  have D3 := D2.trans (hb.mono D2.size)
  clear hb D2 HT2 HA2 HL2 HU2
  go_wp2_with fail
  refine (pext_any _ p _ _ _ _ _ HU3.out Z1.out Z2.out HT3.out).mono ?_
  rintro e w4 ⟨rfl, hb⟩
  have HT4 := TabOk.kept HT3 hb
  have HA4 := StrsOk.kept HA3 hb
  have HL4 := StrsOk.kept HL3 hb
  have HU4 := StrsOk.kept HU3 hb
  have D4 := D3.trans (hb.mono D3.size)
  clear hb D3 HT3 HA3 HL3 HU3
  rw [EX.out]
  go_wp2_with fail
  go_ret
  exact ⟨rfl, D4⟩
set_option maxRecDepth 100000 in
set_option maxHeartbeats 2000000 in
theorem walkCont6 (v : Value) (a : List ByteArray) (b off cap : Nat) (l : List ByteArray) (u : Value) (p : List ByteArray) (w : World) (hv : Hid (StrsOk w v a)) (hl : Hid (StrsOk w (.slice (some ⟨b, off, none⟩) l.length cap) l)) (hu : Hid (StrsOk w u p)) (ht : Hid (TabOk w)) (h0 : 0 < l.length) (hcap : l.length ≤ cap) (f1 : goodT a = true) (f2 : goodT l = true) (f3 : fewT p = true) (c : a.length ≤ l.length) (ex : extB (rootS a) a.length (rootS l) l.length p = true) (eq : Hid (a = l.take a.length)) :
    Calls Tryd.prog 8 #[v, .slice (some ⟨b, off, none⟩) l.length cap, u] w fun e w' => e = .returned (.bool true) ∧ Below w.heap.size w w' := by
  have FA := Lib.hid f1
  have FL := Lib.hid f2
  have FP := Lib.hid f3
  have NA := goodT_len f1
  have NL := goodT_len f2
  have DA := Lib.hid (goodT_digs f1)
  have DL := Lib.hid (goodT_digs f2)
  have SP := Lib.hid (fewT_small f3)
  have LP := Lib.hid (fewT_len f3)
  have Z1 := Lib.hid (rootS_size a)
  have Z2 := Lib.hid (rootS_size l)
  have EX := Lib.hid ex
  clear f1 f2 f3 ex
  have HT0 := ht
  have HA0 := hv
  have HL0 := hl
  have HU0 := hu
  clear ht hv hl hu
  have D0 := Below.refl w.heap.size w
  obtain ⟨xa, acap, rfl, ac1, ac2⟩ := HA0.out.room
  have n1 : ¬ cap = 0 := by omega
  have n2 : (0 : Int) ≤ (a.length : Int) := by omega
  have n3 : (a.length : Int) ≤ (cap : Int) := by omega
  go_enter Tryd.func8, Tryd.ntmps8
  go_wp2_with fail
  refine (thead_any _ HT0.out).mono ?_
  rintro e w1 ⟨rfl, hb⟩
  have HT1 := TabOk.kept HT0 hb
  have HA1 := StrsOk.kept HA0 hb
  have HL1 := StrsOk.kept HL0 hb
  have HU1 := StrsOk.kept HU0 hb
  have D1 := D0.trans (hb.mono D0.size)
  clear hb D0 HT0 HA0 HL0 HU0
  go_wp2_with fail
  refine (good_any _ a _ HA1.out).mono ?_
  rintro e wz ⟨rfl, rfl⟩
  rw [FA.out]
  go_wp2_with fail
  refine (good_any _ l _ HL1.out).mono ?_
  rintro e wz ⟨rfl, rfl⟩
  rw [FL.out]
  go_wp2_with fail
  refine (fewT_any _ p _ HU1.out).mono ?_
  rintro e wz ⟨rfl, rfl⟩
  rw [FP.out]
  go_wp2_with fail
  refine (rooted_any _ a _ HA1.out (by omega) HT1.out).mono ?_
  rintro e w2 ⟨rfl, hb⟩
  have HT2 := TabOk.kept HT1 hb
  have HA2 := StrsOk.kept HA1 hb
  have HL2 := StrsOk.kept HL1 hb
  have HU2 := StrsOk.kept HU1 hb
  have D2 := D1.trans (hb.mono D1.size)
  clear hb D1 HT1 HA1 HL1 HU1
  go_wp2_with fail
  refine (rooted_any _ l _ HL2.out (by omega) HT2.out).mono ?_
  rintro e w3 ⟨rfl, hb⟩
  have HT3 := TabOk.kept HT2 hb
  have HA3 := StrsOk.kept HA2 hb
  have HL3 := StrsOk.kept HL2 hb
  have HU3 := StrsOk.kept HU2 hb
  have D3 := D2.trans (hb.mono D2.size)
  clear hb D2 HT2 HA2 HL2 HU2
  go_wp2_with fail
  refine (pext_any _ p _ _ _ _ _ HU3.out Z1.out Z2.out HT3.out).mono ?_
  rintro e w4 ⟨rfl, hb⟩
  have HT4 := TabOk.kept HT3 hb
  have HA4 := StrsOk.kept HA3 hb
  have HL4 := StrsOk.kept HL3 hb
  have HU4 := StrsOk.kept HU3 hb
  have D4 := D3.trans (hb.mono D3.size)
  clear hb D3 HT3 HA3 HL3 HU3
  rw [EX.out]
  go_wp2_with fail
  refine (same_ok _ _ a (l.take a.length) _ HA4.out (StrsOk.upto HL4.out h0 a.length c)).mono ?_
  rintro e w5 ⟨rfl, hb⟩
  have HT5 := TabOk.kept HT4 hb
  have HA5 := StrsOk.kept HA4 hb
  have HL5 := StrsOk.kept HL4 hb
  have HU5 := StrsOk.kept HU4 hb
  have D5 := D4.trans (hb.mono D4.size)
  clear hb D4 HT4 HA4 HL4 HU4
  rw [show sameB a (l.take a.length) = true from decide_eq_true eq.out]
  go_wp2_with fail
  go_ret
  exact ⟨rfl, D5⟩
set_option maxRecDepth 100000 in
set_option maxHeartbeats 2000000 in
theorem walkCont7 (v : Value) (a : List ByteArray) (ya : Option Addr) (lcap : Nat) (l : List ByteArray) (u : Value) (p : List ByteArray) (w : World) (hv : Hid (StrsOk w v a)) (hl : Hid (StrsOk w (.slice ya l.length lcap) l)) (hu : Hid (StrsOk w u p)) (ht : Hid (TabOk w)) (h0 : Hid (l = [])) (n1 : ¬ lcap = 0) (hcap : l.length ≤ lcap) (hc2 : lcap ≤ maxLen) (f1 : goodT a = true) (f2 : goodT l = true) (f3 : fewT p = true) (c : a.length ≤ l.length) (ex : extB (rootS a) a.length (rootS l) l.length p = true) (eq : Hid (a = l.take a.length)) :
    Calls Tryd.prog 8 #[v, .slice ya l.length lcap, u] w fun e w' => e = .returned (.bool true) ∧ Below w.heap.size w w' := by
  have FA := Lib.hid f1
  have FL := Lib.hid f2
  have FP := Lib.hid f3
  have NA := goodT_len f1
  have NL := goodT_len f2
  have DA := Lib.hid (goodT_digs f1)
  have DL := Lib.hid (goodT_digs f2)
  have SP := Lib.hid (fewT_small f3)
  have LP := Lib.hid (fewT_len f3)
  have Z1 := Lib.hid (rootS_size a)
  have Z2 := Lib.hid (rootS_size l)
  have EX := Lib.hid ex
  clear f1 f2 f3 ex
  have HT0 := ht
  have HA0 := hv
  have HL0 := hl
  have HU0 := hu
  clear ht hv hl hu
  have D0 := Below.refl w.heap.size w
  obtain ⟨xa, acap, rfl, ac1, ac2⟩ := HA0.out.room
  have HC2 := Lib.hid hc2
  clear hc2
  go_enter Tryd.func8, Tryd.ntmps8
  go_wp2_with fail
  refine (thead_any _ HT0.out).mono ?_
  rintro e w1 ⟨rfl, hb⟩
  have HT1 := TabOk.kept HT0 hb
  have HA1 := StrsOk.kept HA0 hb
  have HL1 := StrsOk.kept HL0 hb
  have HU1 := StrsOk.kept HU0 hb
  have D1 := D0.trans (hb.mono D0.size)
  clear hb D0 HT0 HA0 HL0 HU0
  go_wp2_with fail
  refine (good_any _ a _ HA1.out).mono ?_
  rintro e wz ⟨rfl, rfl⟩
  rw [FA.out]
  go_wp2_with fail
  refine (good_any _ l _ HL1.out).mono ?_
  rintro e wz ⟨rfl, rfl⟩
  rw [FL.out]
  go_wp2_with fail
  refine (fewT_any _ p _ HU1.out).mono ?_
  rintro e wz ⟨rfl, rfl⟩
  rw [FP.out]
  go_wp2_with fail
  refine (rooted_any _ a _ HA1.out (by omega) HT1.out).mono ?_
  rintro e w2 ⟨rfl, hb⟩
  have HT2 := TabOk.kept HT1 hb
  have HA2 := StrsOk.kept HA1 hb
  have HL2 := StrsOk.kept HL1 hb
  have HU2 := StrsOk.kept HU1 hb
  have D2 := D1.trans (hb.mono D1.size)
  clear hb D1 HT1 HA1 HL1 HU1
  go_wp2_with fail
  refine (rooted_any _ l _ HL2.out (by omega) HT2.out).mono ?_
  rintro e w3 ⟨rfl, hb⟩
  have HT3 := TabOk.kept HT2 hb
  have HA3 := StrsOk.kept HA2 hb
  have HL3 := StrsOk.kept HL2 hb
  have HU3 := StrsOk.kept HU2 hb
  have D3 := D2.trans (hb.mono D2.size)
  clear hb D2 HT2 HA2 HL2 HU2
  go_wp2_with fail
  refine (pext_any _ p _ _ _ _ _ HU3.out Z1.out Z2.out HT3.out).mono ?_
  rintro e w4 ⟨rfl, hb⟩
  have HT4 := TabOk.kept HT3 hb
  have HA4 := StrsOk.kept HA3 hb
  have HL4 := StrsOk.kept HL3 hb
  have HU4 := StrsOk.kept HU3 hb
  have D4 := D3.trans (hb.mono D3.size)
  clear hb D3 HT3 HA3 HL3 HU3
  rw [EX.out]
  go_wp2_with fail
  refine (same_ok _ _ a (l.take a.length) _ HA4.out (nil_upto h0.out c HC2.out)).mono ?_
  rintro e w5 ⟨rfl, hb⟩
  have HT5 := TabOk.kept HT4 hb
  have HA5 := StrsOk.kept HA4 hb
  have HL5 := StrsOk.kept HL4 hb
  have HU5 := StrsOk.kept HU4 hb
  have D5 := D4.trans (hb.mono D4.size)
  clear hb D4 HT4 HA4 HL4 HU4
  rw [show sameB a (l.take a.length) = true from decide_eq_true eq.out]
  go_wp2_with fail
  go_ret
  exact ⟨rfl, D5⟩
set_option maxRecDepth 100000 in
set_option maxHeartbeats 2000000 in
theorem walkCont8 (v : Value) (a : List ByteArray) (ya : Option Addr) (l : List ByteArray) (u : Value) (p : List ByteArray) (w : World) (hv : Hid (StrsOk w v a)) (hl : Hid (StrsOk w (.slice ya l.length 0) l)) (hu : Hid (StrsOk w u p)) (ht : Hid (TabOk w)) (h0 : Hid (l = [])) (hcap : l.length ≤ 0) (f1 : goodT a = true) (f2 : goodT l = true) (f3 : fewT p = true) (c : a.length ≤ l.length) (ex : extB (rootS a) a.length (rootS l) l.length p = true) (eq : Hid (a = l.take a.length)) :
    Calls Tryd.prog 8 #[v, .slice ya l.length 0, u] w fun e w' => e = .returned (.bool true) ∧ Below w.heap.size w w' := by
  have FA := Lib.hid f1
  have FL := Lib.hid f2
  have FP := Lib.hid f3
  have NA := goodT_len f1
  have NL := goodT_len f2
  have DA := Lib.hid (goodT_digs f1)
  have DL := Lib.hid (goodT_digs f2)
  have SP := Lib.hid (fewT_small f3)
  have LP := Lib.hid (fewT_len f3)
  have Z1 := Lib.hid (rootS_size a)
  have Z2 := Lib.hid (rootS_size l)
  have EX := Lib.hid ex
  clear f1 f2 f3 ex
  have HT0 := ht
  have HA0 := hv
  have HL0 := hl
  have HU0 := hu
  clear ht hv hl hu
  have D0 := Below.refl w.heap.size w
  obtain ⟨xa, acap, rfl, ac1, ac2⟩ := HA0.out.room
  go_enter Tryd.func8, Tryd.ntmps8
  go_wp2_with fail
  refine (thead_any _ HT0.out).mono ?_
  rintro e w1 ⟨rfl, hb⟩
  have HT1 := TabOk.kept HT0 hb
  have HA1 := StrsOk.kept HA0 hb
  have HL1 := StrsOk.kept HL0 hb
  have HU1 := StrsOk.kept HU0 hb
  have D1 := D0.trans (hb.mono D0.size)
  clear hb D0 HT0 HA0 HL0 HU0
  go_wp2_with fail
  refine (good_any _ a _ HA1.out).mono ?_
  rintro e wz ⟨rfl, rfl⟩
  rw [FA.out]
  go_wp2_with fail
  refine (good_any _ l _ HL1.out).mono ?_
  rintro e wz ⟨rfl, rfl⟩
  rw [FL.out]
  go_wp2_with fail
  refine (fewT_any _ p _ HU1.out).mono ?_
  rintro e wz ⟨rfl, rfl⟩
  rw [FP.out]
  go_wp2_with fail
  refine (rooted_any _ a _ HA1.out (by omega) HT1.out).mono ?_
  rintro e w2 ⟨rfl, hb⟩
  have HT2 := TabOk.kept HT1 hb
  have HA2 := StrsOk.kept HA1 hb
  have HL2 := StrsOk.kept HL1 hb
  have HU2 := StrsOk.kept HU1 hb
  have D2 := D1.trans (hb.mono D1.size)
  clear hb D1 HT1 HA1 HL1 HU1
  go_wp2_with fail
  refine (rooted_any _ l _ HL2.out (by omega) HT2.out).mono ?_
  rintro e w3 ⟨rfl, hb⟩
  have HT3 := TabOk.kept HT2 hb
  have HA3 := StrsOk.kept HA2 hb
  have HL3 := StrsOk.kept HL2 hb
  have HU3 := StrsOk.kept HU2 hb
  have D3 := D2.trans (hb.mono D2.size)
  clear hb D2 HT2 HA2 HL2 HU2
  go_wp2_with fail
  refine (pext_any _ p _ _ _ _ _ HU3.out Z1.out Z2.out HT3.out).mono ?_
  rintro e w4 ⟨rfl, hb⟩
  have HT4 := TabOk.kept HT3 hb
  have HA4 := StrsOk.kept HA3 hb
  have HL4 := StrsOk.kept HL3 hb
  have HU4 := StrsOk.kept HU3 hb
  have D4 := D3.trans (hb.mono D3.size)
  clear hb D3 HT3 HA3 HL3 HU3
  rw [EX.out]
  go_wp2_with fail
  refine (same_ok _ _ a (l.take a.length) _ HA4.out (nil_upto h0.out c (Nat.zero_le _))).mono ?_
  rintro e w5 ⟨rfl, hb⟩
  have HT5 := TabOk.kept HT4 hb
  have HA5 := StrsOk.kept HA4 hb
  have HL5 := StrsOk.kept HL4 hb
  have HU5 := StrsOk.kept HU4 hb
  have D5 := D4.trans (hb.mono D4.size)
  clear hb D4 HT4 HA4 HL4 HU4
  rw [show sameB a (l.take a.length) = true from decide_eq_true eq.out]
  go_wp2_with fail
  go_ret
  exact ⟨rfl, D5⟩
set_option maxRecDepth 100000 in
set_option maxHeartbeats 2000000 in
theorem walkCont9 (v : Value) (a : List ByteArray) (b off cap : Nat) (l : List ByteArray) (u : Value) (p : List ByteArray) (w : World) (hv : Hid (StrsOk w v a)) (hl : Hid (StrsOk w (.slice (some ⟨b, off, none⟩) l.length cap) l)) (hu : Hid (StrsOk w u p)) (ht : Hid (TabOk w)) (h0 : 0 < l.length) (hcap : l.length ≤ cap) (f1 : goodT a = true) (f2 : goodT l = true) (f3 : fewT p = true) (c : a.length ≤ l.length) (ex : extB (rootS a) a.length (rootS l) l.length p = true) (ne : Hid (a ≠ l.take a.length)) (gs : Goes a l p) :
    Calls Tryd.prog 8 #[v, .slice (some ⟨b, off, none⟩) l.length cap, u] w fun e w' => e = .returned (.bool true) ∧ Below w.heap.size w w' := by
  have GS := Lib.hid gs
  have m0 := gs.pos
  have t9 : (((linkS l a.length).length : Int) != (p.length : Int)) = false := by rw [grows_link (goodT_digs f2) c, linkW_len c, if_neg (by omega), gs.len]; simp
  have t8 : ((a.length : Int) == 0) = false := beq_eq_false_iff_ne.2 (by omega)
  have Z3 : Hid ((rootS a).size ≤ 2147483648) := Lib.hid (dig_small (rootS_is (goodT_digs f1)))
  clear gs
  have FA := Lib.hid f1
  have FL := Lib.hid f2
  have FP := Lib.hid f3
  have NA := goodT_len f1
  have NL := goodT_len f2
  have DA := Lib.hid (goodT_digs f1)
  have DL := Lib.hid (goodT_digs f2)
  have SP := Lib.hid (fewT_small f3)
  have LP := Lib.hid (fewT_len f3)
  have Z1 := Lib.hid (rootS_size a)
  have Z2 := Lib.hid (rootS_size l)
  have EX := Lib.hid ex
  clear f1 f2 f3 ex
  have HT0 := ht
  have HA0 := hv
  have HL0 := hl
  have HU0 := hu
  clear ht hv hl hu
  have D0 := Below.refl w.heap.size w
  obtain ⟨xa, acap, rfl, ac1, ac2⟩ := HA0.out.room
  have n1 : ¬ cap = 0 := by omega
  have n2 : (0 : Int) ≤ (a.length : Int) := by omega
  have n3 : (a.length : Int) ≤ (cap : Int) := by omega
  go_enter Tryd.func8, Tryd.ntmps8
  go_wp2_with fail
  refine (thead_any _ HT0.out).mono ?_
  rintro e w1 ⟨rfl, hb⟩
  have HT1 := TabOk.kept HT0 hb
  have HA1 := StrsOk.kept HA0 hb
  have HL1 := StrsOk.kept HL0 hb
  have HU1 := StrsOk.kept HU0 hb
  have D1 := D0.trans (hb.mono D0.size)
  clear hb D0 HT0 HA0 HL0 HU0
  go_wp2_with fail
  refine (good_any _ a _ HA1.out).mono ?_
  rintro e wz ⟨rfl, rfl⟩
  rw [FA.out]
  go_wp2_with fail
  refine (good_any _ l _ HL1.out).mono ?_
  rintro e wz ⟨rfl, rfl⟩
  rw [FL.out]
  go_wp2_with fail
  refine (fewT_any _ p _ HU1.out).mono ?_
  rintro e wz ⟨rfl, rfl⟩
  rw [FP.out]
  go_wp2_with fail
  refine (rooted_any _ a _ HA1.out (by omega) HT1.out).mono ?_
  rintro e w2 ⟨rfl, hb⟩
  have HT2 := TabOk.kept HT1 hb
  have HA2 := StrsOk.kept HA1 hb
  have HL2 := StrsOk.kept HL1 hb
  have HU2 := StrsOk.kept HU1 hb
  have D2 := D1.trans (hb.mono D1.size)
  clear hb D1 HT1 HA1 HL1 HU1
  go_wp2_with fail
  refine (rooted_any _ l _ HL2.out (by omega) HT2.out).mono ?_
  rintro e w3 ⟨rfl, hb⟩
  have HT3 := TabOk.kept HT2 hb
  have HA3 := StrsOk.kept HA2 hb
  have HL3 := StrsOk.kept HL2 hb
  have HU3 := StrsOk.kept HU2 hb
  have D3 := D2.trans (hb.mono D2.size)
  clear hb D2 HT2 HA2 HL2 HU2
  go_wp2_with fail
  refine (pext_any _ p _ _ _ _ _ HU3.out Z1.out Z2.out HT3.out).mono ?_
  rintro e w4 ⟨rfl, hb⟩
  have HT4 := TabOk.kept HT3 hb
  have HA4 := StrsOk.kept HA3 hb
  have HL4 := StrsOk.kept HL3 hb
  have HU4 := StrsOk.kept HU3 hb
  have D4 := D3.trans (hb.mono D3.size)
  clear hb D3 HT3 HA3 HL3 HU3
  rw [EX.out]
  go_wp2_with fail
  refine (same_ok _ _ a (l.take a.length) _ HA4.out (StrsOk.upto HL4.out h0 a.length c)).mono ?_
  rintro e w5 ⟨rfl, hb⟩
  have HT5 := TabOk.kept HT4 hb
  have HA5 := StrsOk.kept HA4 hb
  have HL5 := StrsOk.kept HL4 hb
  have HU5 := StrsOk.kept HU4 hb
  have D5 := D4.trans (hb.mono D4.size)
  clear hb D4 HT4 HA4 HL4 HU4
  rw [show sameB a (l.take a.length) = false from decide_eq_false ne.out]
  obtain ⟨up, pcap, rfl, pc1, pc2⟩ := HU5.out.room
  go_wp2_with fail
  refine (link_good _ l a.length _ HL5.out (by omega) DL.out c HT5.out).mono ?_
  rintro e w6 ⟨o, rfl, hu, hb⟩
  have HO6 := Lib.hid hu
  clear hu
  have HT6 := TabOk.kept HT5 hb
  have HA6 := StrsOk.kept HA5 hb
  have HL6 := StrsOk.kept HL5 hb
  have HU6 := StrsOk.kept HU5 hb
  have D6 := D5.trans (hb.mono D5.size)
  clear hb D5 HT5 HA5 HL5 HU5
  obtain ⟨oa, ocap, rfl, oc1, oc2⟩ := HO6.out.room
  clear HO6
  go_wp2_with fail
  have HTA := Lib.hid (fun (w' : World) (hb : Below w6.heap.size w6 w') => reftexts_any _ a _ w' rfl (by omega) (digsB_small DA.out) (HA6.out.below hb))
  have HTL := Lib.hid (fun (w' : World) (hb : Below w6.heap.size w6 w') => reftexts_any _ l _ w' rfl (by omega) (digsB_small DL.out) (HL6.out.below hb))
  have HTM := Lib.hid (fun (w' : World) (hb : Below w6.heap.size w6 w') => reftexts_any _ (l.take a.length) _ w' rfl (take_len_le (by omega)) (digsB_small (digsB_take DL.out _)) ((StrsOk.upto HL6.out h0 a.length c).below hb))
  have TA := Lib.hid (texts_len NA)
  have TL := Lib.hid (texts_len NL)
  have TM := Lib.hid (texts_len (take_len_le (m := a.length) NL))
  obtain ⟨TX, hTX⟩ : ∃ TX, TX = textsB a ++ textsB l ++ textsB (l.take a.length) := ⟨_, rfl⟩
  obtain ⟨LT, hLT⟩ : ∃ LT, LT = linkTextsB l.length a.length true (rootS a) p := ⟨_, rfl⟩
  have HTX := Lib.hid hTX
  have XL : Hid (TX.length ≤ 63) := Lib.hid (by rw [hTX]; have := TA.out; have := TL.out; have := TM.out; simp only [List.length_append]; omega)
  have XS : Hid (∀ s ∈ TX, s.size ≤ 1099511627776) := Lib.hid (by rw [hTX]; exact mem_append_size (mem_append_size (texts_size DA.out) (texts_size DL.out)) (texts_size (digsB_take DL.out _)))
  have YL : Hid (LT.length ≤ 40) := Lib.hid (by rw [hLT]; have := linkTextsB_len l.length a.length true (rootS a) p; omega)
  have YS : Hid (∀ s ∈ LT, s.size ≤ 1099511627776) := Lib.hid (by rw [hLT]; exact linkTextsB_size _ _ _ _ _ m0 c GS.out.len Z3.out SP.out)
  have SW : Hid (Shown (TX ++ LT)) := Lib.hid (by rw [hTX, hLT]; exact GS.out.shown)
  have HLT := Lib.hid hLT
  clear hTX hLT
  go_region_held3 (fun w' => Below w6.heap.size w6 w') (first | (with_reducible assumption) | exact Below.drew (Below.refl _ _) | exact hB9 | exact hB10 | exact (Below.trans (by assumption) (Below.mono (by assumption) (Below.size (by assumption))))) (first | (go_at_call 27; first | ((with_reducible refine (HTA.out _ ?hb).mono ?_); (case hb => assumption); rintro e x1 ⟨u1, rfl, hu1, hx1⟩) | ((with_reducible refine (HTL.out _ ?hb).mono ?_); (case hb => assumption); rintro e x2 ⟨u2, rfl, hu2, hx2⟩) | ((with_reducible refine (HTM.out _ ?hb).mono ?_); (case hb => assumption); rintro e x3 ⟨u3, rfl, hu3, hx3⟩)) | (refine step_cat _ (by rfl) _ _ (by rfl) w6.heap.size _ u1 u2 (textsB a) (textsB l) (by rfl) (by rfl) (by first | exact (hu1.mono (Nat.le_refl _)).below hx2 | exact ((hu1.mono (Nat.le_refl _)).below hx2).below hx3) (by first | exact hu2 | exact hu2.below hx3) (catS_len (Nat.le_trans TA.out (by omega)) (Nat.le_trans TL.out (by omega))) (Below.size (by assumption)) ?_; intro v7 w77 hown7 hgrow7; have hB9 := below_append (by assumption) (hu1.mono (Nat.le_refl w6.heap.size)) hgrow7) | (refine step_cat _ (by rfl) _ _ (by rfl) w6.heap.size _ v7 u3 (textsB a ++ textsB l) (textsB (l.take a.length)) (by rfl) (by rfl) (by first | exact hown7 | exact hown7.below hx3) (by first | exact hu3 | exact hu3.grown_or hgrow7 (own_apart (hu1.below hx2) hu3 (Nat.le_refl _))) (three_len TA.out TL.out TM.out) (Below.size (by assumption)) ?_; intro v8 w88 hown8 hgrow8; have hB10 := below_append (by assumption) hown7 hgrow8) | fail "no arm")
  all_goals have hW8 : Below w6.heap.size w6 w88 := by assumption
  all_goals have HT88 := TabOk.kept HT6 hW8
  all_goals have HA88 := StrsOk.kept HA6 hW8
  all_goals have HU88 := StrsOk.kept HU6 hW8
  all_goals have D88 := D6.trans (hW8.mono D6.size)
  all_goals have hown := hown8.mono D6.size
  all_goals rw [← HTX.out] at hown
  all_goals clear hu1 hu2 hu3 hx1 hx2 hx3 hown7 hgrow7 hown8 hgrow8 hB9 hB10 hW8
  all_goals go_wp2_with fail
  all_goals refine (rooted_any _ a _ HA88.out (by omega) HT88.out).mono ?_
  all_goals rintro e w89 ⟨rfl, hb⟩
  all_goals have HU89 := StrsOk.kept HU88 hb
  all_goals have hown2 := hown.below hb
  all_goals have D89 := D88.trans (hb.mono D88.size)
  all_goals clear hb
  all_goals go_wp2_with fail
  all_goals refine (refltexts_any _ _ true _ p _ _ (by omega) m0 c GS.out.len Z3.out SP.out HU89.out).mono ?_
  all_goals rintro e w90 ⟨y, rfl, hy, hb⟩
  all_goals rw [← HLT.out] at hy
  all_goals have hown3 := hown2.below hb
  all_goals have D90 := D89.trans (hb.mono D89.size)
  all_goals clear hb
  all_goals go_wp2_with (at_builtin; refine wpList_cat_if _ (by rfl) _ _ rfl w.heap.size _ _ _ TX LT rfl rfl hown3 hy (by have := XL.out; have := YL.out; omega) D90.size ?_)
  all_goals intro v9 w9 hown9 hgrow9
  all_goals have D9 := below_append D90 hown3 hgrow9
  all_goals go_wp2_with fail
  all_goals refine (own_shown _ _ _ _ hown9 (by rw [List.length_append]; have := XL.out; have := YL.out; omega) (mem_append_size XS.out YS.out) SW.out).mono ?_
  all_goals rintro e w91 ⟨rfl, hb⟩
  all_goals have D91 := D9.trans (hb.mono D9.size)
  all_goals go_wp2_with fail
  all_goals go_ret
  all_goals exact ⟨rfl, D91⟩
theorem walkTreeContinues (v : Value) (a : List ByteArray) (q : Value) (l : List ByteArray) (u : Value) (p : List ByteArray) (w : World) (hv' : StrsOk w v a) (hl' : StrsOk w q l) (hu' : StrsOk w u p) (ht' : TabOk w) :
    Calls Tryd.prog 8 #[v, q, u] w fun e w' => e = .returned (.bool true) ∧ Below w.heap.size w w' := by
  have hv := Lib.hid hv'
  have hl := Lib.hid hl'
  have hu := Lib.hid hu'
  have ht := Lib.hid ht'
  have tr : ∀ {b : Bool}, ¬ b = true → b = false := fun h => by simpa using h
  by_cases c1 : goodT a = true
  · by_cases c2 : goodT l = true
    · by_cases c3 : fewT p = true
      · by_cases c4 : a.length ≤ l.length
        · by_cases c5 : extB (rootS a) a.length (rootS l) l.length p = true
          · by_cases c0 : 0 < l.length
            · obtain ⟨b, off, cap, rfl, h1, h3, hc⟩ := hl'.open_ c0
              by_cases c6 : a = l.take a.length
              · exact walkCont6 v a b off cap l u p w hv hl hu ht c0 h1 c1 c2 c3 c4 c5 (Lib.hid c6)
              · exact walkCont9 v a b off cap l u p w hv hl hu ht c0 h1 c1 c2 c3 c4 c5 (Lib.hid c6) (goes_of (goodT_digs c1) (goodT_digs c2) c4 c5 c6)
            · have e : l = [] := List.eq_nil_of_length_eq_zero (by omega)
              have ea : a = [] := List.eq_nil_of_length_eq_zero (by omega)
              have c6 : a = l.take a.length := by rw [e, ea]; rfl
              obtain ⟨ya, lcap, rfl, h1, h2⟩ := hl'.room
              by_cases n1 : lcap = 0
              · subst n1
                exact walkCont8 v a ya l u p w hv hl hu ht (Lib.hid e) h1 c1 c2 c3 c4 c5 (Lib.hid c6)
              · exact walkCont7 v a ya lcap l u p w hv hl hu ht (Lib.hid e) n1 h1 h2 c1 c2 c3 c4 c5 (Lib.hid c6)
          · exact walkCont5 v a q l u p w hv hl hu ht c1 c2 c3 c4 (tr c5)
        · exact walkCont4 v a q l u p w hv hl hu ht c1 c2 c3 (by omega)
      · exact walkCont3 v a q l u p w hv hl hu ht c1 c2 (tr c3)
    · exact walkCont2 v a q l u p w hv hl hu ht c1 (tr c2)
  · exact walkCont1 v a q l u p w hv hl hu ht (tr c1)
end Go.Proofs.YtbiekbppenccdaaDoor
