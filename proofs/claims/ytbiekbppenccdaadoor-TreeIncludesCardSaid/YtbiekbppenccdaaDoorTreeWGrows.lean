/-
  The walk of the statement that links prove that a list goes on from its beginnings.
-/
import Derived.Test.YtbiekbppenccdaaDoorTreeWMatch
set_option linter.unusedVariables false
namespace Go.Proofs.YtbiekbppenccdaaDoor
open Go.RowKit
theorem goodT_digs {ss : List ByteArray} (h : goodT ss = true) : digsB ss = true := by
  simp only [goodT, Bool.and_eq_true] at h
  exact h.1
theorem goodT_len {ss : List ByteArray} (h : goodT ss = true) : ss.length ≤ 20 := by
  simp only [goodT, Bool.and_eq_true] at h
  exact fewT_len h.2
theorem rootS_yes {ss : List ByteArray} (h : digsB ss = true) : rootS ss = rootB ss := by rw [rootS, if_pos h]
theorem rootS_is {ss : List ByteArray} (h : digsB ss = true) : isB (rootS ss) = true := by rw [rootS_yes h]; exact rootB_is h
theorem grows_link {l : List ByteArray} {m : Nat} (hd : digsB l = true) (hm : m ≤ l.length) : linkS l m = linkW l m := linkS_yes ((linkOk_iff l m).2 ⟨hd, by omega, by omega⟩)
theorem linkW_len {l : List ByteArray} {m : Nat} (hm : m ≤ l.length) : (linkW l m).length = if m = 0 then 0 else longB l.length m true := by
  unfold linkW
  by_cases h0 : m = 0
  · rw [if_pos (.inl h0), if_pos h0]; rfl
  · by_cases h1 : m = l.length
    · rw [if_pos (.inr h1), if_neg h0, h1, longB_end]; rfl
    · rw [if_neg (by omega), if_neg h0, linkB_len _ l m true rfl (by omega) hm]
theorem grows_ext {l : List ByteArray} {m : Nat} (hd : digsB l = true) (hm : m ≤ l.length) (hl : l.length ≤ 20) : extB (rootS (l.take m)) m (rootS l) l.length (linkS l m) = true := by
  rw [grows_link hd hm, rootS_yes hd, rootS_yes (digsB_take hd m), extB_iff]
  refine ⟨by omega, by omega, by omega, rootB_is (digsB_take hd m), rootB_is hd, linkW_digs hd hm, ?_⟩
  by_cases h0 : m = 0
  · subst h0
    rw [if_pos (by rfl)]
    refine ⟨by rw [linkW_len (by omega)]; rfl, by rw [List.take_zero, rootB_nil], ?_⟩
    by_cases hn : 0 < l.length
    · exact .inl (by omega)
    · have : l = [] := List.eq_nil_of_length_eq_zero (by omega)
      subst this
      exact .inr rfl
  · rw [if_neg (by omega)]
    simp only [Int.toNat_natCast]
    refine ⟨by rw [linkW_len hm, if_neg h0], ?_⟩
    by_cases h1 : m = l.length
    · subst h1
      rw [List.take_length, bothB_end]
      exact ⟨rfl, rfl⟩
    · have := bothB_link _ l m true (rootB (l.take m)) rfl (by omega) hm (fun _ => rfl)
      rw [linkW, if_neg (by omega), this]
      exact ⟨rfl, rfl⟩
theorem grows_len {l : List ByteArray} {m : Nat} (hd : digsB l = true) (hm : m ≤ l.length) : (linkS l m).length ≤ digitsN l.length + 1 := by
  rw [grows_link hd hm, linkW_len hm]
  split
  · omega
  · exact longB_digits _ _ _ (by omega) hm
theorem grows_none {l : List ByteArray} {m : Nat} (hd : digsB l = true) (hm : m ≤ l.length) : decide ((linkS l m).length = 0) = decide (m = 0 ∨ m = l.length) := by
  rw [grows_link hd hm, linkW_len hm]
  split
  · rename_i h; simp [h]
  · rename_i h
    have := longB_zero_iff (n := l.length) (m := m) (by omega) hm
    simp [this, h]
theorem digitsN_le (n : Nat) : digitsN n ≤ n := by
  induction n using Nat.strongRecOn with
  | _ n ih =>
    by_cases h : n = 0
    · subst h; rw [digitsN_zero]; omega
    · rw [digitsN_pos (by omega)]
      have := ih (n / 2) (by omega)
      omega
theorem StrsOk.nil_any (w : World) (a : Option Addr) (cap : Nat) (h : cap ≤ maxLen) : StrsOk w (.slice a 0 cap) [] := ⟨.inl ⟨rfl, _, _, rfl⟩, by simp, (by intro s h; cases h), _, _, rfl, by simp, h⟩
theorem StrsOk.upto {w : World} {b off cap : Nat} {ss : List ByteArray} (h : StrsOk w (.slice (Option.some ⟨b, off, Option.none⟩) ss.length cap) ss) (h0 : 0 < ss.length) (k : Nat) (hk : k ≤ ss.length) :
    StrsOk w (.slice (Option.some ⟨b, off, Option.none⟩) k cap) (ss.take k) := by
  obtain ⟨b', off', cap', e, h1, h3, hc⟩ := h.open_ h0
  simp only [Value.slice.injEq, Option.some.injEq, Addr.mk.injEq] at e
  obtain ⟨⟨rfl, rfl, _⟩, _, rfl⟩ := e
  by_cases h0 : 0 < k
  · exact StrsOk.first h1 h3 h.sizes hc k h0 hk
  · obtain rfl : k = 0 := by omega
    rw [List.take_zero]
    exact StrsOk.nil_any w _ _ h3

set_option maxRecDepth 100000 in
set_option maxHeartbeats 2000000 in
theorem walkGrows1 (v : Value) (l : List ByteArray) (r : Int) (w : World) (hv : Hid (StrsOk w v l)) (ht : Hid (TabOk w)) (g : goodT l = false) :
    Calls Tryd.prog 7 #[v, .int .u8 r] w fun e w' => e = .returned (.bool true) ∧ Below w.heap.size w w' := by
  have FG := Lib.hid g
  clear g
  have HT0 := ht
  have HV0 := hv
  clear ht hv
  have D0 := Below.refl w.heap.size w
  go_enter Tryd.func7, Tryd.ntmps7
  go_wp2_with fail
  refine (thead_any _ HT0.out).mono ?_
  rintro e w1 ⟨rfl, hb⟩
  have HT1 := TabOk.kept HT0 hb
  have HV1 := StrsOk.kept HV0 hb
  have D1 := D0.trans (hb.mono D0.size)
  clear hb D0 HT0 HV0
  go_wp2_with fail
  refine (good_any _ l _ HV1.out).mono ?_
  rintro e wz ⟨rfl, rfl⟩
  rw [FG.out]
  go_wp2_with fail
  go_ret
  exact ⟨rfl, D1⟩
theorem link_good (v : Value) (l : List ByteArray) (m : Nat) (w : World) (h : StrsOk w v l) (hl : l.length ≤ 1099511627775) (hd : digsB l = true) (hm : m ≤ l.length) (ht : TabOk w) :
    Calls Tryd.prog 15 #[v, .int .i64 (m : Int)] w fun e w' => ∃ u, e = .returned (.tuple #[u, .int .i64 0]) ∧ StrsOk w' u (linkS l m) ∧ Below w.heap.size w w' := by
  refine (pLink_any v l m w h hl ht).mono ?_
  intro e w' g
  have := g.ok (linkS_len l m)
  rw [(linkOk_iff l m).2 ⟨hd, by omega, by omega⟩] at this
  exact this

set_option maxRecDepth 100000 in
set_option maxHeartbeats 2000000 in
theorem walkGrows2 (b off cap : Nat) (l : List ByteArray) (k : Nat) (w : World) (hv : Hid (StrsOk w (.slice (some ⟨b, off, none⟩) l.length cap) l)) (ht : Hid (TabOk w)) (g : goodT l = true) (hk : k ≤ 255) (h0 : 0 < l.length) (hc1 : l.length ≤ cap) :
    Calls Tryd.prog 7 #[.slice (some ⟨b, off, none⟩) l.length cap, .int .u8 (k : Int)] w fun e w' => e = .returned (.bool true) ∧ Below w.heap.size w w' := by
  have FG := Lib.hid g
  have h20 := goodT_len g
  have hdd := goodT_digs g
  clear g
  have HT0 := ht
  have HV0 := hv
  clear ht hv
  have D0 := Below.refl w.heap.size w
  have n1 : ¬ cap = 0 := by omega
  obtain ⟨M, hM⟩ : ∃ M, M = k % (l.length + 1) := ⟨_, rfl⟩
  have hml : M ≤ l.length := by rw [hM]; have := Nat.mod_lt k (show 0 < l.length + 1 by omega); omega
  have i1 : IntKind.i64.wrap ((l.length : Int) + 1) = (l.length : Int) + 1 := IntWalk.i64_in _ (by omega)
  have i2 : ((k : Int)).tmod ((l.length : Int) + 1) = (M : Int) := by rw [hM, Int.tmod_eq_emod_of_nonneg (by omega), Int.natCast_emod, Int.natCast_add]; rfl
  have EX := Lib.hid (grows_ext hdd hml h20)
  have XL := grows_len hdd hml
  have XN := grows_none hdd hml
  have HDD := Lib.hid hdd
  clear hM hdd
  obtain ⟨Dg, hDg⟩ : ∃ Dg, Dg = digitsN l.length := ⟨_, rfl⟩
  have dg20 : Dg ≤ 20 := by rw [hDg]; have := digitsN_le l.length; omega
  rw [← hDg] at XL
  have HDG := Lib.hid hDg
  clear hDg
  have hlk : ∀ w, StrsOk w (.slice (some ⟨b, off, none⟩) l.length cap) l → TabOk w → Calls Tryd.prog 15 #[.slice (some ⟨b, off, none⟩) l.length cap, .int .i64 (M : Int)] w fun e w' => ∃ u, e = .returned (.tuple #[u, .int .i64 0]) ∧ StrsOk w' u (linkS l M) ∧ Below w.heap.size w w' := fun w h ht => link_good _ l M w h (by omega) HDD.out hml ht
  obtain ⟨X, hX⟩ : ∃ X, X = linkS l M := ⟨_, rfl⟩
  rw [← hX] at XL XN hlk EX
  clear hX
  have HLK := Lib.hid hlk
  clear hlk
  have u1 : decide ((X.length : Int) ≤ (Dg : Int) + 1) = true := decide_eq_true (by omega)
  have u2 : decide (X.length ≤ Dg + 1) = true := decide_eq_true XL
  have i3 : IntKind.i64.wrap ((Dg : Int) + 1) = (Dg : Int) + 1 := IntWalk.i64_in _ (by omega)
  by_cases c0 : M = 0
  · skip
    have b1 : ((X.length : Int) == 0) = true := by have := XN; simp [c0] at this; simp [this]
    have b2 : ((M : Int) == 0) = true := by simp [c0]
    clear c0
    clear XN XL
    go_enter Tryd.func7, Tryd.ntmps7
    go_wp2_with fail
    refine (thead_any _ HT0.out).mono ?_
    rintro e w1 ⟨rfl, hb⟩
    have HT1 := TabOk.kept HT0 hb
    have HV1 := StrsOk.kept HV0 hb
    have D1 := D0.trans (hb.mono D0.size)
    clear hb D0 HT0 HV0
    go_wp2_with fail
    refine (good_any _ l _ HV1.out).mono ?_
    rintro e wz ⟨rfl, rfl⟩
    rw [FG.out]
    go_wp2_with fail
    refine (HLK.out _ HV1.out HT1.out).mono ?_
    rintro e w2 ⟨u, rfl, hu, hb⟩
    have HX2 := Lib.hid hu
    clear hu
    have HT2 := TabOk.kept HT1 hb
    have HV2 := StrsOk.kept HV1 hb
    have D2 := D1.trans (hb.mono D1.size)
    clear hb D1 HT1 HV1
    go_wp2_with fail
    go_loop [9, 10] (fun x y => ∃ a c : Nat, x = .int .i64 (a : Int) ∧ y = .int .i64 (c : Int) ∧ a ≤ Dg ∧ c ≤ l.length ∧ Hid (a + digitsN c = Dg)) (fun _ y => (intOf y).toNat)
    case atStart => exact ⟨0, l.length, rfl, rfl, by omega, Nat.le_refl _, Lib.hid (by have := HDG.out; omega)⟩
    case round =>
      obtain ⟨a, c, rfl, rfl, ha, hcl, hac⟩ := hrel
      by_cases hc0 : c = 0
      · have e0 : a = Dg := by have := hac.out; rw [hc0, digitsN_zero] at this; omega
        subst hc0 e0
        obtain ⟨ua, ucap, rfl, hu1, hu2⟩ := HX2.out.room
        go_wp2_with fail
        refine (rooted_any _ (l.take M) _ (StrsOk.upto HV2.out h0 M hml) (by rw [List.length_take]; omega) HT2.out).mono ?_
        rintro e w3 ⟨rfl, hb⟩
        have HT3 := TabOk.kept HT2 hb
        have HV3 := StrsOk.kept HV2 hb
        have HX3 := StrsOk.kept HX2 hb
        have D3 := D2.trans (hb.mono D2.size)
        clear hb D2 HT2 HV2 HX2
        go_wp2_with fail
        refine (rooted_any _ l _ HV3.out (by omega) HT3.out).mono ?_
        rintro e w4 ⟨rfl, hb⟩
        have HT4 := TabOk.kept HT3 hb
        have HV4 := StrsOk.kept HV3 hb
        have HX4 := StrsOk.kept HX3 hb
        have D4 := D3.trans (hb.mono D3.size)
        clear hb D3 HT3 HV3 HX3
        have z1 := rootS_size (l.take M)
        have z2 := rootS_size l
        have Z1 := Lib.hid z1
        have Z2 := Lib.hid z2
        clear z1 z2
        go_wp2_with fail
        refine (pext_any _ X _ _ _ _ _ HX4.out Z1.out Z2.out HT4.out).mono ?_
        rintro e w5 ⟨rfl, hb⟩
        have HT5 := TabOk.kept HT4 hb
        have HV5 := StrsOk.kept HV4 hb
        have HX5 := StrsOk.kept HX4 hb
        have D5 := D4.trans (hb.mono D4.size)
        clear hb D4 HT4 HV4 HX4
        rw [EX.out]
        go_wp2_with fail
        go_ret
        exact ⟨rfl, D5⟩
      · have hcc := digitsN_pos (show 0 < c by omega)
        have HCC := Lib.hid hcc
        have al : a + 1 ≤ Dg := by have := hac.out; have := HCC.out; omega
        have j1 : IntKind.i64.wrap ((a : Int) + 1) = (a : Int) + 1 := IntWalk.i64_in _ (by omega)
        have j2 : ((c : Int)).tdiv 2 = ((c / 2 : Nat) : Int) := by rw [Int.tdiv_eq_ediv_of_nonneg (by omega)]; omega
        have j3 : decide ((0 : Int) < (c : Int)) = true := decide_eq_true (by omega)
        have j4 : decide (0 < c) = true := decide_eq_true (by omega)
        have j5 : IntKind.i64.wrap ((c / 2 : Nat) : Int) = ((c / 2 : Nat) : Int) := IntWalk.i64_in _ (by omega)
        clear hcc
        go_wp2_with fail
        go_round
        case rel => exact ⟨a + 1, c / 2, by go_num, by go_num, al, by omega, Lib.hid (by have := hac.out; have := HCC.out; omega)⟩
        case measure => simp [intOf]; omega
  · by_cases c1 : M = l.length
    · skip
      have b1 : ((X.length : Int) == 0) = true := by have := XN; simp [c1] at this; simp [this]
      have b2 : ((M : Int) == 0) = false := by simp [c0]
      have b3 : ((M : Int) == (l.length : Int)) = true := by simp [c1]
      clear c0 c1
      clear XN XL
      go_enter Tryd.func7, Tryd.ntmps7
      go_wp2_with fail
      refine (thead_any _ HT0.out).mono ?_
      rintro e w1 ⟨rfl, hb⟩
      have HT1 := TabOk.kept HT0 hb
      have HV1 := StrsOk.kept HV0 hb
      have D1 := D0.trans (hb.mono D0.size)
      clear hb D0 HT0 HV0
      go_wp2_with fail
      refine (good_any _ l _ HV1.out).mono ?_
      rintro e wz ⟨rfl, rfl⟩
      rw [FG.out]
      go_wp2_with fail
      refine (HLK.out _ HV1.out HT1.out).mono ?_
      rintro e w2 ⟨u, rfl, hu, hb⟩
      have HX2 := Lib.hid hu
      clear hu
      have HT2 := TabOk.kept HT1 hb
      have HV2 := StrsOk.kept HV1 hb
      have D2 := D1.trans (hb.mono D1.size)
      clear hb D1 HT1 HV1
      go_wp2_with fail
      go_loop [9, 10] (fun x y => ∃ a c : Nat, x = .int .i64 (a : Int) ∧ y = .int .i64 (c : Int) ∧ a ≤ Dg ∧ c ≤ l.length ∧ Hid (a + digitsN c = Dg)) (fun _ y => (intOf y).toNat)
      case atStart => exact ⟨0, l.length, rfl, rfl, by omega, Nat.le_refl _, Lib.hid (by have := HDG.out; omega)⟩
      case round =>
        obtain ⟨a, c, rfl, rfl, ha, hcl, hac⟩ := hrel
        by_cases hc0 : c = 0
        · have e0 : a = Dg := by have := hac.out; rw [hc0, digitsN_zero] at this; omega
          subst hc0 e0
          obtain ⟨ua, ucap, rfl, hu1, hu2⟩ := HX2.out.room
          go_wp2_with fail
          refine (rooted_any _ (l.take M) _ (StrsOk.upto HV2.out h0 M hml) (by rw [List.length_take]; omega) HT2.out).mono ?_
          rintro e w3 ⟨rfl, hb⟩
          have HT3 := TabOk.kept HT2 hb
          have HV3 := StrsOk.kept HV2 hb
          have HX3 := StrsOk.kept HX2 hb
          have D3 := D2.trans (hb.mono D2.size)
          clear hb D2 HT2 HV2 HX2
          go_wp2_with fail
          refine (rooted_any _ l _ HV3.out (by omega) HT3.out).mono ?_
          rintro e w4 ⟨rfl, hb⟩
          have HT4 := TabOk.kept HT3 hb
          have HV4 := StrsOk.kept HV3 hb
          have HX4 := StrsOk.kept HX3 hb
          have D4 := D3.trans (hb.mono D3.size)
          clear hb D3 HT3 HV3 HX3
          have z1 := rootS_size (l.take M)
          have z2 := rootS_size l
          have Z1 := Lib.hid z1
          have Z2 := Lib.hid z2
          clear z1 z2
          go_wp2_with fail
          refine (pext_any _ X _ _ _ _ _ HX4.out Z1.out Z2.out HT4.out).mono ?_
          rintro e w5 ⟨rfl, hb⟩
          have HT5 := TabOk.kept HT4 hb
          have HV5 := StrsOk.kept HV4 hb
          have HX5 := StrsOk.kept HX4 hb
          have D5 := D4.trans (hb.mono D4.size)
          clear hb D4 HT4 HV4 HX4
          rw [EX.out]
          go_wp2_with fail
          go_ret
          exact ⟨rfl, D5⟩
        · have hcc := digitsN_pos (show 0 < c by omega)
          have HCC := Lib.hid hcc
          have al : a + 1 ≤ Dg := by have := hac.out; have := HCC.out; omega
          have j1 : IntKind.i64.wrap ((a : Int) + 1) = (a : Int) + 1 := IntWalk.i64_in _ (by omega)
          have j2 : ((c : Int)).tdiv 2 = ((c / 2 : Nat) : Int) := by rw [Int.tdiv_eq_ediv_of_nonneg (by omega)]; omega
          have j3 : decide ((0 : Int) < (c : Int)) = true := decide_eq_true (by omega)
          have j4 : decide (0 < c) = true := decide_eq_true (by omega)
          have j5 : IntKind.i64.wrap ((c / 2 : Nat) : Int) = ((c / 2 : Nat) : Int) := IntWalk.i64_in _ (by omega)
          clear hcc
          go_wp2_with fail
          go_round
          case rel => exact ⟨a + 1, c / 2, by go_num, by go_num, al, by omega, Lib.hid (by have := hac.out; have := HCC.out; omega)⟩
          case measure => simp [intOf]; omega
    · skip
      have b1 : ((X.length : Int) == 0) = false := by have := XN; simp [c0, c1] at this; simp [this]
      have b2 : ((M : Int) == 0) = false := by simp [c0]
      have b3 : ((M : Int) == (l.length : Int)) = false := by simp; omega
      clear c0 c1
      clear XN XL
      go_enter Tryd.func7, Tryd.ntmps7
      go_wp2_with fail
      refine (thead_any _ HT0.out).mono ?_
      rintro e w1 ⟨rfl, hb⟩
      have HT1 := TabOk.kept HT0 hb
      have HV1 := StrsOk.kept HV0 hb
      have D1 := D0.trans (hb.mono D0.size)
      clear hb D0 HT0 HV0
      go_wp2_with fail
      refine (good_any _ l _ HV1.out).mono ?_
      rintro e wz ⟨rfl, rfl⟩
      rw [FG.out]
      go_wp2_with fail
      refine (HLK.out _ HV1.out HT1.out).mono ?_
      rintro e w2 ⟨u, rfl, hu, hb⟩
      have HX2 := Lib.hid hu
      clear hu
      have HT2 := TabOk.kept HT1 hb
      have HV2 := StrsOk.kept HV1 hb
      have D2 := D1.trans (hb.mono D1.size)
      clear hb D1 HT1 HV1
      go_wp2_with fail
      go_loop [9, 10] (fun x y => ∃ a c : Nat, x = .int .i64 (a : Int) ∧ y = .int .i64 (c : Int) ∧ a ≤ Dg ∧ c ≤ l.length ∧ Hid (a + digitsN c = Dg)) (fun _ y => (intOf y).toNat)
      case atStart => exact ⟨0, l.length, rfl, rfl, by omega, Nat.le_refl _, Lib.hid (by have := HDG.out; omega)⟩
      case round =>
        obtain ⟨a, c, rfl, rfl, ha, hcl, hac⟩ := hrel
        by_cases hc0 : c = 0
        · have e0 : a = Dg := by have := hac.out; rw [hc0, digitsN_zero] at this; omega
          subst hc0 e0
          obtain ⟨ua, ucap, rfl, hu1, hu2⟩ := HX2.out.room
          go_wp2_with fail
          refine (rooted_any _ (l.take M) _ (StrsOk.upto HV2.out h0 M hml) (by rw [List.length_take]; omega) HT2.out).mono ?_
          rintro e w3 ⟨rfl, hb⟩
          have HT3 := TabOk.kept HT2 hb
          have HV3 := StrsOk.kept HV2 hb
          have HX3 := StrsOk.kept HX2 hb
          have D3 := D2.trans (hb.mono D2.size)
          clear hb D2 HT2 HV2 HX2
          go_wp2_with fail
          refine (rooted_any _ l _ HV3.out (by omega) HT3.out).mono ?_
          rintro e w4 ⟨rfl, hb⟩
          have HT4 := TabOk.kept HT3 hb
          have HV4 := StrsOk.kept HV3 hb
          have HX4 := StrsOk.kept HX3 hb
          have D4 := D3.trans (hb.mono D3.size)
          clear hb D3 HT3 HV3 HX3
          have z1 := rootS_size (l.take M)
          have z2 := rootS_size l
          have Z1 := Lib.hid z1
          have Z2 := Lib.hid z2
          clear z1 z2
          go_wp2_with fail
          refine (pext_any _ X _ _ _ _ _ HX4.out Z1.out Z2.out HT4.out).mono ?_
          rintro e w5 ⟨rfl, hb⟩
          have HT5 := TabOk.kept HT4 hb
          have HV5 := StrsOk.kept HV4 hb
          have HX5 := StrsOk.kept HX4 hb
          have D5 := D4.trans (hb.mono D4.size)
          clear hb D4 HT4 HV4 HX4
          rw [EX.out]
          go_wp2_with fail
          go_ret
          exact ⟨rfl, D5⟩
        · have hcc := digitsN_pos (show 0 < c by omega)
          have HCC := Lib.hid hcc
          have al : a + 1 ≤ Dg := by have := hac.out; have := HCC.out; omega
          have j1 : IntKind.i64.wrap ((a : Int) + 1) = (a : Int) + 1 := IntWalk.i64_in _ (by omega)
          have j2 : ((c : Int)).tdiv 2 = ((c / 2 : Nat) : Int) := by rw [Int.tdiv_eq_ediv_of_nonneg (by omega)]; omega
          have j3 : decide ((0 : Int) < (c : Int)) = true := decide_eq_true (by omega)
          have j4 : decide (0 < c) = true := decide_eq_true (by omega)
          have j5 : IntKind.i64.wrap ((c / 2 : Nat) : Int) = ((c / 2 : Nat) : Int) := IntWalk.i64_in _ (by omega)
          clear hcc
          go_wp2_with fail
          go_round
          case rel => exact ⟨a + 1, c / 2, by go_num, by go_num, al, by omega, Lib.hid (by have := hac.out; have := HCC.out; omega)⟩
          case measure => simp [intOf]; omega
theorem nil_upto {w : World} {a : Option Addr} {k cap : Nat} {l : List ByteArray} (h : l = []) (hk : k ≤ l.length) (hc : cap ≤ maxLen) : StrsOk w (.slice a k cap) (l.take k) := by
  subst h
  obtain rfl : k = 0 := by simpa using hk
  exact StrsOk.nil_any w a cap hc

set_option maxRecDepth 100000 in
set_option maxHeartbeats 2000000 in
theorem walkGrows3 (a : Option Addr) (cap : Nat) (l : List ByteArray) (k : Nat) (w : World) (hv : Hid (StrsOk w (.slice a l.length cap) l)) (ht : Hid (TabOk w)) (g : goodT l = true) (hk : k ≤ 255) (h0 : Hid (l = [])) (hc1 : l.length ≤ cap) (n1 : ¬ cap = 0) (hc2 : cap ≤ maxLen) :
    Calls Tryd.prog 7 #[.slice a l.length cap, .int .u8 (k : Int)] w fun e w' => e = .returned (.bool true) ∧ Below w.heap.size w w' := by
  have FG := Lib.hid g
  have h20 := goodT_len g
  have hdd := goodT_digs g
  clear g
  have HT0 := ht
  have HV0 := hv
  clear ht hv
  have D0 := Below.refl w.heap.size w
  have HC2 := Lib.hid hc2
  clear hc2
  obtain ⟨M, hM⟩ : ∃ M, M = k % (l.length + 1) := ⟨_, rfl⟩
  have hml : M ≤ l.length := by rw [hM]; have := Nat.mod_lt k (show 0 < l.length + 1 by omega); omega
  have i1 : IntKind.i64.wrap ((l.length : Int) + 1) = (l.length : Int) + 1 := IntWalk.i64_in _ (by omega)
  have i2 : ((k : Int)).tmod ((l.length : Int) + 1) = (M : Int) := by rw [hM, Int.tmod_eq_emod_of_nonneg (by omega), Int.natCast_emod, Int.natCast_add]; rfl
  have EX := Lib.hid (grows_ext hdd hml h20)
  have XL := grows_len hdd hml
  have XN := grows_none hdd hml
  have HDD := Lib.hid hdd
  clear hM hdd
  obtain ⟨Dg, hDg⟩ : ∃ Dg, Dg = digitsN l.length := ⟨_, rfl⟩
  have dg20 : Dg ≤ 20 := by rw [hDg]; have := digitsN_le l.length; omega
  rw [← hDg] at XL
  have HDG := Lib.hid hDg
  clear hDg
  have hlk : ∀ w, StrsOk w (.slice a l.length cap) l → TabOk w → Calls Tryd.prog 15 #[.slice a l.length cap, .int .i64 (M : Int)] w fun e w' => ∃ u, e = .returned (.tuple #[u, .int .i64 0]) ∧ StrsOk w' u (linkS l M) ∧ Below w.heap.size w w' := fun w h ht => link_good _ l M w h (by omega) HDD.out hml ht
  obtain ⟨X, hX⟩ : ∃ X, X = linkS l M := ⟨_, rfl⟩
  rw [← hX] at XL XN hlk EX
  clear hX
  have HLK := Lib.hid hlk
  clear hlk
  have u1 : decide ((X.length : Int) ≤ (Dg : Int) + 1) = true := decide_eq_true (by omega)
  have u2 : decide (X.length ≤ Dg + 1) = true := decide_eq_true XL
  have i3 : IntKind.i64.wrap ((Dg : Int) + 1) = (Dg : Int) + 1 := IntWalk.i64_in _ (by omega)
  by_cases c0 : M = 0
  · skip
    have b1 : ((X.length : Int) == 0) = true := by have := XN; simp [c0] at this; simp [this]
    have b2 : ((M : Int) == 0) = true := by simp [c0]
    clear c0
    clear XN XL
    go_enter Tryd.func7, Tryd.ntmps7
    go_wp2_with fail
    refine (thead_any _ HT0.out).mono ?_
    rintro e w1 ⟨rfl, hb⟩
    have HT1 := TabOk.kept HT0 hb
    have HV1 := StrsOk.kept HV0 hb
    have D1 := D0.trans (hb.mono D0.size)
    clear hb D0 HT0 HV0
    go_wp2_with fail
    refine (good_any _ l _ HV1.out).mono ?_
    rintro e wz ⟨rfl, rfl⟩
    rw [FG.out]
    go_wp2_with fail
    refine (HLK.out _ HV1.out HT1.out).mono ?_
    rintro e w2 ⟨u, rfl, hu, hb⟩
    have HX2 := Lib.hid hu
    clear hu
    have HT2 := TabOk.kept HT1 hb
    have HV2 := StrsOk.kept HV1 hb
    have D2 := D1.trans (hb.mono D1.size)
    clear hb D1 HT1 HV1
    go_wp2_with fail
    go_loop [9, 10] (fun x y => ∃ a c : Nat, x = .int .i64 (a : Int) ∧ y = .int .i64 (c : Int) ∧ a ≤ Dg ∧ c ≤ l.length ∧ Hid (a + digitsN c = Dg)) (fun _ y => (intOf y).toNat)
    case atStart => exact ⟨0, l.length, rfl, rfl, by omega, Nat.le_refl _, Lib.hid (by have := HDG.out; omega)⟩
    case round =>
      obtain ⟨a, c, rfl, rfl, ha, hcl, hac⟩ := hrel
      by_cases hc0 : c = 0
      · have e0 : a = Dg := by have := hac.out; rw [hc0, digitsN_zero] at this; omega
        subst hc0 e0
        obtain ⟨ua, ucap, rfl, hu1, hu2⟩ := HX2.out.room
        go_wp2_with fail
        refine (rooted_any _ (l.take M) _ (nil_upto h0.out hml HC2.out) (by rw [List.length_take]; omega) HT2.out).mono ?_
        rintro e w3 ⟨rfl, hb⟩
        have HT3 := TabOk.kept HT2 hb
        have HV3 := StrsOk.kept HV2 hb
        have HX3 := StrsOk.kept HX2 hb
        have D3 := D2.trans (hb.mono D2.size)
        clear hb D2 HT2 HV2 HX2
        go_wp2_with fail
        refine (rooted_any _ l _ HV3.out (by omega) HT3.out).mono ?_
        rintro e w4 ⟨rfl, hb⟩
        have HT4 := TabOk.kept HT3 hb
        have HV4 := StrsOk.kept HV3 hb
        have HX4 := StrsOk.kept HX3 hb
        have D4 := D3.trans (hb.mono D3.size)
        clear hb D3 HT3 HV3 HX3
        have z1 := rootS_size (l.take M)
        have z2 := rootS_size l
        have Z1 := Lib.hid z1
        have Z2 := Lib.hid z2
        clear z1 z2
        go_wp2_with fail
        refine (pext_any _ X _ _ _ _ _ HX4.out Z1.out Z2.out HT4.out).mono ?_
        rintro e w5 ⟨rfl, hb⟩
        have HT5 := TabOk.kept HT4 hb
        have HV5 := StrsOk.kept HV4 hb
        have HX5 := StrsOk.kept HX4 hb
        have D5 := D4.trans (hb.mono D4.size)
        clear hb D4 HT4 HV4 HX4
        rw [EX.out]
        go_wp2_with fail
        go_ret
        exact ⟨rfl, D5⟩
      · have hcc := digitsN_pos (show 0 < c by omega)
        have HCC := Lib.hid hcc
        have al : a + 1 ≤ Dg := by have := hac.out; have := HCC.out; omega
        have j1 : IntKind.i64.wrap ((a : Int) + 1) = (a : Int) + 1 := IntWalk.i64_in _ (by omega)
        have j2 : ((c : Int)).tdiv 2 = ((c / 2 : Nat) : Int) := by rw [Int.tdiv_eq_ediv_of_nonneg (by omega)]; omega
        have j3 : decide ((0 : Int) < (c : Int)) = true := decide_eq_true (by omega)
        have j4 : decide (0 < c) = true := decide_eq_true (by omega)
        have j5 : IntKind.i64.wrap ((c / 2 : Nat) : Int) = ((c / 2 : Nat) : Int) := IntWalk.i64_in _ (by omega)
        clear hcc
        go_wp2_with fail
        go_round
        case rel => exact ⟨a + 1, c / 2, by go_num, by go_num, al, by omega, Lib.hid (by have := hac.out; have := HCC.out; omega)⟩
        case measure => simp [intOf]; omega
  · by_cases c1 : M = l.length
    · skip
      have b1 : ((X.length : Int) == 0) = true := by have := XN; simp [c1] at this; simp [this]
      have b2 : ((M : Int) == 0) = false := by simp [c0]
      have b3 : ((M : Int) == (l.length : Int)) = true := by simp [c1]
      clear c0 c1
      clear XN XL
      go_enter Tryd.func7, Tryd.ntmps7
      go_wp2_with fail
      refine (thead_any _ HT0.out).mono ?_
      rintro e w1 ⟨rfl, hb⟩
      have HT1 := TabOk.kept HT0 hb
      have HV1 := StrsOk.kept HV0 hb
      have D1 := D0.trans (hb.mono D0.size)
      clear hb D0 HT0 HV0
      go_wp2_with fail
      refine (good_any _ l _ HV1.out).mono ?_
      rintro e wz ⟨rfl, rfl⟩
      rw [FG.out]
      go_wp2_with fail
      refine (HLK.out _ HV1.out HT1.out).mono ?_
      rintro e w2 ⟨u, rfl, hu, hb⟩
      have HX2 := Lib.hid hu
      clear hu
      have HT2 := TabOk.kept HT1 hb
      have HV2 := StrsOk.kept HV1 hb
      have D2 := D1.trans (hb.mono D1.size)
      clear hb D1 HT1 HV1
      go_wp2_with fail
      go_loop [9, 10] (fun x y => ∃ a c : Nat, x = .int .i64 (a : Int) ∧ y = .int .i64 (c : Int) ∧ a ≤ Dg ∧ c ≤ l.length ∧ Hid (a + digitsN c = Dg)) (fun _ y => (intOf y).toNat)
      case atStart => exact ⟨0, l.length, rfl, rfl, by omega, Nat.le_refl _, Lib.hid (by have := HDG.out; omega)⟩
      case round =>
        obtain ⟨a, c, rfl, rfl, ha, hcl, hac⟩ := hrel
        by_cases hc0 : c = 0
        · have e0 : a = Dg := by have := hac.out; rw [hc0, digitsN_zero] at this; omega
          subst hc0 e0
          obtain ⟨ua, ucap, rfl, hu1, hu2⟩ := HX2.out.room
          go_wp2_with fail
          refine (rooted_any _ (l.take M) _ (nil_upto h0.out hml HC2.out) (by rw [List.length_take]; omega) HT2.out).mono ?_
          rintro e w3 ⟨rfl, hb⟩
          have HT3 := TabOk.kept HT2 hb
          have HV3 := StrsOk.kept HV2 hb
          have HX3 := StrsOk.kept HX2 hb
          have D3 := D2.trans (hb.mono D2.size)
          clear hb D2 HT2 HV2 HX2
          go_wp2_with fail
          refine (rooted_any _ l _ HV3.out (by omega) HT3.out).mono ?_
          rintro e w4 ⟨rfl, hb⟩
          have HT4 := TabOk.kept HT3 hb
          have HV4 := StrsOk.kept HV3 hb
          have HX4 := StrsOk.kept HX3 hb
          have D4 := D3.trans (hb.mono D3.size)
          clear hb D3 HT3 HV3 HX3
          have z1 := rootS_size (l.take M)
          have z2 := rootS_size l
          have Z1 := Lib.hid z1
          have Z2 := Lib.hid z2
          clear z1 z2
          go_wp2_with fail
          refine (pext_any _ X _ _ _ _ _ HX4.out Z1.out Z2.out HT4.out).mono ?_
          rintro e w5 ⟨rfl, hb⟩
          have HT5 := TabOk.kept HT4 hb
          have HV5 := StrsOk.kept HV4 hb
          have HX5 := StrsOk.kept HX4 hb
          have D5 := D4.trans (hb.mono D4.size)
          clear hb D4 HT4 HV4 HX4
          rw [EX.out]
          go_wp2_with fail
          go_ret
          exact ⟨rfl, D5⟩
        · have hcc := digitsN_pos (show 0 < c by omega)
          have HCC := Lib.hid hcc
          have al : a + 1 ≤ Dg := by have := hac.out; have := HCC.out; omega
          have j1 : IntKind.i64.wrap ((a : Int) + 1) = (a : Int) + 1 := IntWalk.i64_in _ (by omega)
          have j2 : ((c : Int)).tdiv 2 = ((c / 2 : Nat) : Int) := by rw [Int.tdiv_eq_ediv_of_nonneg (by omega)]; omega
          have j3 : decide ((0 : Int) < (c : Int)) = true := decide_eq_true (by omega)
          have j4 : decide (0 < c) = true := decide_eq_true (by omega)
          have j5 : IntKind.i64.wrap ((c / 2 : Nat) : Int) = ((c / 2 : Nat) : Int) := IntWalk.i64_in _ (by omega)
          clear hcc
          go_wp2_with fail
          go_round
          case rel => exact ⟨a + 1, c / 2, by go_num, by go_num, al, by omega, Lib.hid (by have := hac.out; have := HCC.out; omega)⟩
          case measure => simp [intOf]; omega
    · skip
      have b1 : ((X.length : Int) == 0) = false := by have := XN; simp [c0, c1] at this; simp [this]
      have b2 : ((M : Int) == 0) = false := by simp [c0]
      have b3 : ((M : Int) == (l.length : Int)) = false := by simp; omega
      clear c0 c1
      clear XN XL
      go_enter Tryd.func7, Tryd.ntmps7
      go_wp2_with fail
      refine (thead_any _ HT0.out).mono ?_
      rintro e w1 ⟨rfl, hb⟩
      have HT1 := TabOk.kept HT0 hb
      have HV1 := StrsOk.kept HV0 hb
      have D1 := D0.trans (hb.mono D0.size)
      clear hb D0 HT0 HV0
      go_wp2_with fail
      refine (good_any _ l _ HV1.out).mono ?_
      rintro e wz ⟨rfl, rfl⟩
      rw [FG.out]
      go_wp2_with fail
      refine (HLK.out _ HV1.out HT1.out).mono ?_
      rintro e w2 ⟨u, rfl, hu, hb⟩
      have HX2 := Lib.hid hu
      clear hu
      have HT2 := TabOk.kept HT1 hb
      have HV2 := StrsOk.kept HV1 hb
      have D2 := D1.trans (hb.mono D1.size)
      clear hb D1 HT1 HV1
      go_wp2_with fail
      go_loop [9, 10] (fun x y => ∃ a c : Nat, x = .int .i64 (a : Int) ∧ y = .int .i64 (c : Int) ∧ a ≤ Dg ∧ c ≤ l.length ∧ Hid (a + digitsN c = Dg)) (fun _ y => (intOf y).toNat)
      case atStart => exact ⟨0, l.length, rfl, rfl, by omega, Nat.le_refl _, Lib.hid (by have := HDG.out; omega)⟩
      case round =>
        obtain ⟨a, c, rfl, rfl, ha, hcl, hac⟩ := hrel
        by_cases hc0 : c = 0
        · have e0 : a = Dg := by have := hac.out; rw [hc0, digitsN_zero] at this; omega
          subst hc0 e0
          obtain ⟨ua, ucap, rfl, hu1, hu2⟩ := HX2.out.room
          go_wp2_with fail
          refine (rooted_any _ (l.take M) _ (nil_upto h0.out hml HC2.out) (by rw [List.length_take]; omega) HT2.out).mono ?_
          rintro e w3 ⟨rfl, hb⟩
          have HT3 := TabOk.kept HT2 hb
          have HV3 := StrsOk.kept HV2 hb
          have HX3 := StrsOk.kept HX2 hb
          have D3 := D2.trans (hb.mono D2.size)
          clear hb D2 HT2 HV2 HX2
          go_wp2_with fail
          refine (rooted_any _ l _ HV3.out (by omega) HT3.out).mono ?_
          rintro e w4 ⟨rfl, hb⟩
          have HT4 := TabOk.kept HT3 hb
          have HV4 := StrsOk.kept HV3 hb
          have HX4 := StrsOk.kept HX3 hb
          have D4 := D3.trans (hb.mono D3.size)
          clear hb D3 HT3 HV3 HX3
          have z1 := rootS_size (l.take M)
          have z2 := rootS_size l
          have Z1 := Lib.hid z1
          have Z2 := Lib.hid z2
          clear z1 z2
          go_wp2_with fail
          refine (pext_any _ X _ _ _ _ _ HX4.out Z1.out Z2.out HT4.out).mono ?_
          rintro e w5 ⟨rfl, hb⟩
          have HT5 := TabOk.kept HT4 hb
          have HV5 := StrsOk.kept HV4 hb
          have HX5 := StrsOk.kept HX4 hb
          have D5 := D4.trans (hb.mono D4.size)
          clear hb D4 HT4 HV4 HX4
          rw [EX.out]
          go_wp2_with fail
          go_ret
          exact ⟨rfl, D5⟩
        · have hcc := digitsN_pos (show 0 < c by omega)
          have HCC := Lib.hid hcc
          have al : a + 1 ≤ Dg := by have := hac.out; have := HCC.out; omega
          have j1 : IntKind.i64.wrap ((a : Int) + 1) = (a : Int) + 1 := IntWalk.i64_in _ (by omega)
          have j2 : ((c : Int)).tdiv 2 = ((c / 2 : Nat) : Int) := by rw [Int.tdiv_eq_ediv_of_nonneg (by omega)]; omega
          have j3 : decide ((0 : Int) < (c : Int)) = true := decide_eq_true (by omega)
          have j4 : decide (0 < c) = true := decide_eq_true (by omega)
          have j5 : IntKind.i64.wrap ((c / 2 : Nat) : Int) = ((c / 2 : Nat) : Int) := IntWalk.i64_in _ (by omega)
          clear hcc
          go_wp2_with fail
          go_round
          case rel => exact ⟨a + 1, c / 2, by go_num, by go_num, al, by omega, Lib.hid (by have := hac.out; have := HCC.out; omega)⟩
          case measure => simp [intOf]; omega
set_option maxRecDepth 100000 in
set_option maxHeartbeats 2000000 in
theorem walkGrows4 (a : Option Addr) (l : List ByteArray) (k : Nat) (w : World) (hv : Hid (StrsOk w (.slice a l.length 0) l)) (ht : Hid (TabOk w)) (g : goodT l = true) (hk : k ≤ 255) (h0 : Hid (l = [])) (hc1 : l.length ≤ 0) :
    Calls Tryd.prog 7 #[.slice a l.length 0, .int .u8 (k : Int)] w fun e w' => e = .returned (.bool true) ∧ Below w.heap.size w w' := by
  have FG := Lib.hid g
  have h20 := goodT_len g
  have hdd := goodT_digs g
  clear g
  have HT0 := ht
  have HV0 := hv
  clear ht hv
  have D0 := Below.refl w.heap.size w
  obtain ⟨M, hM⟩ : ∃ M, M = k % (l.length + 1) := ⟨_, rfl⟩
  have hml : M ≤ l.length := by rw [hM]; have := Nat.mod_lt k (show 0 < l.length + 1 by omega); omega
  have i1 : IntKind.i64.wrap ((l.length : Int) + 1) = (l.length : Int) + 1 := IntWalk.i64_in _ (by omega)
  have i2 : ((k : Int)).tmod ((l.length : Int) + 1) = (M : Int) := by rw [hM, Int.tmod_eq_emod_of_nonneg (by omega), Int.natCast_emod, Int.natCast_add]; rfl
  have EX := Lib.hid (grows_ext hdd hml h20)
  have XL := grows_len hdd hml
  have XN := grows_none hdd hml
  have HDD := Lib.hid hdd
  clear hM hdd
  obtain ⟨Dg, hDg⟩ : ∃ Dg, Dg = digitsN l.length := ⟨_, rfl⟩
  have dg20 : Dg ≤ 20 := by rw [hDg]; have := digitsN_le l.length; omega
  rw [← hDg] at XL
  have HDG := Lib.hid hDg
  clear hDg
  have hlk : ∀ w, StrsOk w (.slice a l.length 0) l → TabOk w → Calls Tryd.prog 15 #[.slice a l.length 0, .int .i64 (M : Int)] w fun e w' => ∃ u, e = .returned (.tuple #[u, .int .i64 0]) ∧ StrsOk w' u (linkS l M) ∧ Below w.heap.size w w' := fun w h ht => link_good _ l M w h (by omega) HDD.out hml ht
  obtain ⟨X, hX⟩ : ∃ X, X = linkS l M := ⟨_, rfl⟩
  rw [← hX] at XL XN hlk EX
  clear hX
  have HLK := Lib.hid hlk
  clear hlk
  have u1 : decide ((X.length : Int) ≤ (Dg : Int) + 1) = true := decide_eq_true (by omega)
  have u2 : decide (X.length ≤ Dg + 1) = true := decide_eq_true XL
  have i3 : IntKind.i64.wrap ((Dg : Int) + 1) = (Dg : Int) + 1 := IntWalk.i64_in _ (by omega)
  by_cases c0 : M = 0
  · skip
    have b1 : ((X.length : Int) == 0) = true := by have := XN; simp [c0] at this; simp [this]
    have b2 : ((M : Int) == 0) = true := by simp [c0]
    clear c0
    clear XN XL
    go_enter Tryd.func7, Tryd.ntmps7
    go_wp2_with fail
    refine (thead_any _ HT0.out).mono ?_
    rintro e w1 ⟨rfl, hb⟩
    have HT1 := TabOk.kept HT0 hb
    have HV1 := StrsOk.kept HV0 hb
    have D1 := D0.trans (hb.mono D0.size)
    clear hb D0 HT0 HV0
    go_wp2_with fail
    refine (good_any _ l _ HV1.out).mono ?_
    rintro e wz ⟨rfl, rfl⟩
    rw [FG.out]
    go_wp2_with fail
    refine (HLK.out _ HV1.out HT1.out).mono ?_
    rintro e w2 ⟨u, rfl, hu, hb⟩
    have HX2 := Lib.hid hu
    clear hu
    have HT2 := TabOk.kept HT1 hb
    have HV2 := StrsOk.kept HV1 hb
    have D2 := D1.trans (hb.mono D1.size)
    clear hb D1 HT1 HV1
    go_wp2_with fail
    go_loop [9, 10] (fun x y => ∃ a c : Nat, x = .int .i64 (a : Int) ∧ y = .int .i64 (c : Int) ∧ a ≤ Dg ∧ c ≤ l.length ∧ Hid (a + digitsN c = Dg)) (fun _ y => (intOf y).toNat)
    case atStart => exact ⟨0, l.length, rfl, rfl, by omega, Nat.le_refl _, Lib.hid (by have := HDG.out; omega)⟩
    case round =>
      obtain ⟨a, c, rfl, rfl, ha, hcl, hac⟩ := hrel
      by_cases hc0 : c = 0
      · have e0 : a = Dg := by have := hac.out; rw [hc0, digitsN_zero] at this; omega
        subst hc0 e0
        obtain ⟨ua, ucap, rfl, hu1, hu2⟩ := HX2.out.room
        go_wp2_with fail
        refine (rooted_any _ (l.take M) _ (nil_upto h0.out hml (Nat.zero_le _)) (by rw [List.length_take]; omega) HT2.out).mono ?_
        rintro e w3 ⟨rfl, hb⟩
        have HT3 := TabOk.kept HT2 hb
        have HV3 := StrsOk.kept HV2 hb
        have HX3 := StrsOk.kept HX2 hb
        have D3 := D2.trans (hb.mono D2.size)
        clear hb D2 HT2 HV2 HX2
        go_wp2_with fail
        refine (rooted_any _ l _ HV3.out (by omega) HT3.out).mono ?_
        rintro e w4 ⟨rfl, hb⟩
        have HT4 := TabOk.kept HT3 hb
        have HV4 := StrsOk.kept HV3 hb
        have HX4 := StrsOk.kept HX3 hb
        have D4 := D3.trans (hb.mono D3.size)
        clear hb D3 HT3 HV3 HX3
        have z1 := rootS_size (l.take M)
        have z2 := rootS_size l
        have Z1 := Lib.hid z1
        have Z2 := Lib.hid z2
        clear z1 z2
        go_wp2_with fail
        refine (pext_any _ X _ _ _ _ _ HX4.out Z1.out Z2.out HT4.out).mono ?_
        rintro e w5 ⟨rfl, hb⟩
        have HT5 := TabOk.kept HT4 hb
        have HV5 := StrsOk.kept HV4 hb
        have HX5 := StrsOk.kept HX4 hb
        have D5 := D4.trans (hb.mono D4.size)
        clear hb D4 HT4 HV4 HX4
        rw [EX.out]
        go_wp2_with fail
        go_ret
        exact ⟨rfl, D5⟩
      · have hcc := digitsN_pos (show 0 < c by omega)
        have HCC := Lib.hid hcc
        have al : a + 1 ≤ Dg := by have := hac.out; have := HCC.out; omega
        have j1 : IntKind.i64.wrap ((a : Int) + 1) = (a : Int) + 1 := IntWalk.i64_in _ (by omega)
        have j2 : ((c : Int)).tdiv 2 = ((c / 2 : Nat) : Int) := by rw [Int.tdiv_eq_ediv_of_nonneg (by omega)]; omega
        have j3 : decide ((0 : Int) < (c : Int)) = true := decide_eq_true (by omega)
        have j4 : decide (0 < c) = true := decide_eq_true (by omega)
        have j5 : IntKind.i64.wrap ((c / 2 : Nat) : Int) = ((c / 2 : Nat) : Int) := IntWalk.i64_in _ (by omega)
        clear hcc
        go_wp2_with fail
        go_round
        case rel => exact ⟨a + 1, c / 2, by go_num, by go_num, al, by omega, Lib.hid (by have := hac.out; have := HCC.out; omega)⟩
        case measure => simp [intOf]; omega
  · by_cases c1 : M = l.length
    · skip
      have b1 : ((X.length : Int) == 0) = true := by have := XN; simp [c1] at this; simp [this]
      have b2 : ((M : Int) == 0) = false := by simp [c0]
      have b3 : ((M : Int) == (l.length : Int)) = true := by simp [c1]
      clear c0 c1
      clear XN XL
      go_enter Tryd.func7, Tryd.ntmps7
      go_wp2_with fail
      refine (thead_any _ HT0.out).mono ?_
      rintro e w1 ⟨rfl, hb⟩
      have HT1 := TabOk.kept HT0 hb
      have HV1 := StrsOk.kept HV0 hb
      have D1 := D0.trans (hb.mono D0.size)
      clear hb D0 HT0 HV0
      go_wp2_with fail
      refine (good_any _ l _ HV1.out).mono ?_
      rintro e wz ⟨rfl, rfl⟩
      rw [FG.out]
      go_wp2_with fail
      refine (HLK.out _ HV1.out HT1.out).mono ?_
      rintro e w2 ⟨u, rfl, hu, hb⟩
      have HX2 := Lib.hid hu
      clear hu
      have HT2 := TabOk.kept HT1 hb
      have HV2 := StrsOk.kept HV1 hb
      have D2 := D1.trans (hb.mono D1.size)
      clear hb D1 HT1 HV1
      go_wp2_with fail
      go_loop [9, 10] (fun x y => ∃ a c : Nat, x = .int .i64 (a : Int) ∧ y = .int .i64 (c : Int) ∧ a ≤ Dg ∧ c ≤ l.length ∧ Hid (a + digitsN c = Dg)) (fun _ y => (intOf y).toNat)
      case atStart => exact ⟨0, l.length, rfl, rfl, by omega, Nat.le_refl _, Lib.hid (by have := HDG.out; omega)⟩
      case round =>
        obtain ⟨a, c, rfl, rfl, ha, hcl, hac⟩ := hrel
        by_cases hc0 : c = 0
        · have e0 : a = Dg := by have := hac.out; rw [hc0, digitsN_zero] at this; omega
          subst hc0 e0
          obtain ⟨ua, ucap, rfl, hu1, hu2⟩ := HX2.out.room
          go_wp2_with fail
          refine (rooted_any _ (l.take M) _ (nil_upto h0.out hml (Nat.zero_le _)) (by rw [List.length_take]; omega) HT2.out).mono ?_
          rintro e w3 ⟨rfl, hb⟩
          have HT3 := TabOk.kept HT2 hb
          have HV3 := StrsOk.kept HV2 hb
          have HX3 := StrsOk.kept HX2 hb
          have D3 := D2.trans (hb.mono D2.size)
          clear hb D2 HT2 HV2 HX2
          go_wp2_with fail
          refine (rooted_any _ l _ HV3.out (by omega) HT3.out).mono ?_
          rintro e w4 ⟨rfl, hb⟩
          have HT4 := TabOk.kept HT3 hb
          have HV4 := StrsOk.kept HV3 hb
          have HX4 := StrsOk.kept HX3 hb
          have D4 := D3.trans (hb.mono D3.size)
          clear hb D3 HT3 HV3 HX3
          have z1 := rootS_size (l.take M)
          have z2 := rootS_size l
          have Z1 := Lib.hid z1
          have Z2 := Lib.hid z2
          clear z1 z2
          go_wp2_with fail
          refine (pext_any _ X _ _ _ _ _ HX4.out Z1.out Z2.out HT4.out).mono ?_
          rintro e w5 ⟨rfl, hb⟩
          have HT5 := TabOk.kept HT4 hb
          have HV5 := StrsOk.kept HV4 hb
          have HX5 := StrsOk.kept HX4 hb
          have D5 := D4.trans (hb.mono D4.size)
          clear hb D4 HT4 HV4 HX4
          rw [EX.out]
          go_wp2_with fail
          go_ret
          exact ⟨rfl, D5⟩
        · have hcc := digitsN_pos (show 0 < c by omega)
          have HCC := Lib.hid hcc
          have al : a + 1 ≤ Dg := by have := hac.out; have := HCC.out; omega
          have j1 : IntKind.i64.wrap ((a : Int) + 1) = (a : Int) + 1 := IntWalk.i64_in _ (by omega)
          have j2 : ((c : Int)).tdiv 2 = ((c / 2 : Nat) : Int) := by rw [Int.tdiv_eq_ediv_of_nonneg (by omega)]; omega
          have j3 : decide ((0 : Int) < (c : Int)) = true := decide_eq_true (by omega)
          have j4 : decide (0 < c) = true := decide_eq_true (by omega)
          have j5 : IntKind.i64.wrap ((c / 2 : Nat) : Int) = ((c / 2 : Nat) : Int) := IntWalk.i64_in _ (by omega)
          clear hcc
          go_wp2_with fail
          go_round
          case rel => exact ⟨a + 1, c / 2, by go_num, by go_num, al, by omega, Lib.hid (by have := hac.out; have := HCC.out; omega)⟩
          case measure => simp [intOf]; omega
    · skip
      have b1 : ((X.length : Int) == 0) = false := by have := XN; simp [c0, c1] at this; simp [this]
      have b2 : ((M : Int) == 0) = false := by simp [c0]
      have b3 : ((M : Int) == (l.length : Int)) = false := by simp; omega
      clear c0 c1
      clear XN XL
      go_enter Tryd.func7, Tryd.ntmps7
      go_wp2_with fail
      refine (thead_any _ HT0.out).mono ?_
      rintro e w1 ⟨rfl, hb⟩
      have HT1 := TabOk.kept HT0 hb
      have HV1 := StrsOk.kept HV0 hb
      have D1 := D0.trans (hb.mono D0.size)
      clear hb D0 HT0 HV0
      go_wp2_with fail
      refine (good_any _ l _ HV1.out).mono ?_
      rintro e wz ⟨rfl, rfl⟩
      rw [FG.out]
      go_wp2_with fail
      refine (HLK.out _ HV1.out HT1.out).mono ?_
      rintro e w2 ⟨u, rfl, hu, hb⟩
      have HX2 := Lib.hid hu
      clear hu
      have HT2 := TabOk.kept HT1 hb
      have HV2 := StrsOk.kept HV1 hb
      have D2 := D1.trans (hb.mono D1.size)
      clear hb D1 HT1 HV1
      go_wp2_with fail
      go_loop [9, 10] (fun x y => ∃ a c : Nat, x = .int .i64 (a : Int) ∧ y = .int .i64 (c : Int) ∧ a ≤ Dg ∧ c ≤ l.length ∧ Hid (a + digitsN c = Dg)) (fun _ y => (intOf y).toNat)
      case atStart => exact ⟨0, l.length, rfl, rfl, by omega, Nat.le_refl _, Lib.hid (by have := HDG.out; omega)⟩
      case round =>
        obtain ⟨a, c, rfl, rfl, ha, hcl, hac⟩ := hrel
        by_cases hc0 : c = 0
        · have e0 : a = Dg := by have := hac.out; rw [hc0, digitsN_zero] at this; omega
          subst hc0 e0
          obtain ⟨ua, ucap, rfl, hu1, hu2⟩ := HX2.out.room
          go_wp2_with fail
          refine (rooted_any _ (l.take M) _ (nil_upto h0.out hml (Nat.zero_le _)) (by rw [List.length_take]; omega) HT2.out).mono ?_
          rintro e w3 ⟨rfl, hb⟩
          have HT3 := TabOk.kept HT2 hb
          have HV3 := StrsOk.kept HV2 hb
          have HX3 := StrsOk.kept HX2 hb
          have D3 := D2.trans (hb.mono D2.size)
          clear hb D2 HT2 HV2 HX2
          go_wp2_with fail
          refine (rooted_any _ l _ HV3.out (by omega) HT3.out).mono ?_
          rintro e w4 ⟨rfl, hb⟩
          have HT4 := TabOk.kept HT3 hb
          have HV4 := StrsOk.kept HV3 hb
          have HX4 := StrsOk.kept HX3 hb
          have D4 := D3.trans (hb.mono D3.size)
          clear hb D3 HT3 HV3 HX3
          have z1 := rootS_size (l.take M)
          have z2 := rootS_size l
          have Z1 := Lib.hid z1
          have Z2 := Lib.hid z2
          clear z1 z2
          go_wp2_with fail
          refine (pext_any _ X _ _ _ _ _ HX4.out Z1.out Z2.out HT4.out).mono ?_
          rintro e w5 ⟨rfl, hb⟩
          have HT5 := TabOk.kept HT4 hb
          have HV5 := StrsOk.kept HV4 hb
          have HX5 := StrsOk.kept HX4 hb
          have D5 := D4.trans (hb.mono D4.size)
          clear hb D4 HT4 HV4 HX4
          rw [EX.out]
          go_wp2_with fail
          go_ret
          exact ⟨rfl, D5⟩
        · have hcc := digitsN_pos (show 0 < c by omega)
          have HCC := Lib.hid hcc
          have al : a + 1 ≤ Dg := by have := hac.out; have := HCC.out; omega
          have j1 : IntKind.i64.wrap ((a : Int) + 1) = (a : Int) + 1 := IntWalk.i64_in _ (by omega)
          have j2 : ((c : Int)).tdiv 2 = ((c / 2 : Nat) : Int) := by rw [Int.tdiv_eq_ediv_of_nonneg (by omega)]; omega
          have j3 : decide ((0 : Int) < (c : Int)) = true := decide_eq_true (by omega)
          have j4 : decide (0 < c) = true := decide_eq_true (by omega)
          have j5 : IntKind.i64.wrap ((c / 2 : Nat) : Int) = ((c / 2 : Nat) : Int) := IntWalk.i64_in _ (by omega)
          clear hcc
          go_wp2_with fail
          go_round
          case rel => exact ⟨a + 1, c / 2, by go_num, by go_num, al, by omega, Lib.hid (by have := hac.out; have := HCC.out; omega)⟩
          case measure => simp [intOf]; omega
theorem walkTreeGrows (v : Value) (l : List ByteArray) (r : Int) (w : World) (hv : StrsOk w v l) (hr : (Lit.int .u8 r).wf = true) (ht : TabOk w) :
    Calls Tryd.prog 7 #[v, .int .u8 r] w fun e w' => e = .returned (.bool true) ∧ Below w.heap.size w w' := by
  have hr' := u8_bounds hr
  obtain ⟨k, rfl⟩ : ∃ k : Nat, r = k := ⟨r.toNat, by omega⟩
  by_cases g : goodT l = true
  · by_cases h0 : 0 < l.length
    · obtain ⟨b, off, cap, rfl, h1, h3, hc⟩ := hv.open_ h0
      exact walkGrows2 b off cap l k w (Lib.hid hv) (Lib.hid ht) g (by omega) h0 h1
    · have hl : l = [] := List.eq_nil_of_length_eq_zero (by omega)
      obtain ⟨a, cap, rfl, h1, h2⟩ := hv.room
      by_cases c0 : cap = 0
      · subst c0
        exact walkGrows4 a l k w (Lib.hid hv) (Lib.hid ht) g (by omega) (Lib.hid hl) h1
      · exact walkGrows3 a cap l k w (Lib.hid hv) (Lib.hid ht) g (by omega) (Lib.hid hl) h1 c0 h2
  · exact walkGrows1 v l k w (Lib.hid hv) (Lib.hid ht) (by simpa using g)
end Go.Proofs.YtbiekbppenccdaaDoor
