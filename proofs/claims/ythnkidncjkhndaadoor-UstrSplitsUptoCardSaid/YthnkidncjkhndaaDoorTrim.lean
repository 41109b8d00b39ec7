/-
  Contracts of Trim of the program and of the reference, and of the law UstrLetters (a text of at most 2^45 bytes).
-/
import Derived.Test.YthnkidncjkhndaaDoorLetters
import Derived.Test.YthnkidncjkhndaaDoorUnitLaw
namespace Go.Proofs.YthnkidncjkhndaaDoor
open Go.RowKit
def blU (s : ByteArray) (i : Nat) : Bool := blB ((un s i : Nat) : Int)
def tF (s : ByteArray) : Nat → Nat → Nat
  | 0, i => i
  | f + 1, i => if i < ln s ∧ blU s i = true then tF s f (i + 1) else i
def tT (s : ByteArray) (F : Nat) : Nat → Nat → Nat
  | 0, t => t
  | f + 1, t => if F < t ∧ blU s (t - 1) = true then tT s F f (t - 1) else t
def frS (s : ByteArray) : Nat := tF s (ln s) 0
def toS (s : ByteArray) : Nat := tT s (frS s) (ln s) (ln s)
def trimS (s : ByteArray) : ByteArray := slS s (frS s) (toS s)
theorem tF_go (s : ByteArray) (f i : Nat) (h : i < ln s) (hb : blU s i = true) : tF s (f + 1) i = tF s f (i + 1) := by simp [tF, h, hb]
theorem tF_end (s : ByteArray) (f i : Nat) (h : ¬ (i < ln s ∧ blU s i = true)) : tF s f i = i := by
  cases f with
  | zero => rfl
  | succ f => rw [tF, if_neg h]
theorem tT_go (s : ByteArray) (F f t : Nat) (h : F < t + 1) (hb : blU s t = true) : tT s F (f + 1) (t + 1) = tT s F f t := by simp [tT, h, hb]
theorem tT_end (s : ByteArray) (F f t : Nat) (h : ¬ (F < t ∧ blU s (t - 1) = true)) : tT s F f t = t := by
  cases f with
  | zero => rfl
  | succ f => rw [tT, if_neg h]
theorem blankU_any (s : ByteArray) (i : Nat) (w : World) (b : Bool) (hb : blU s i = b) : Calls Tryd.prog 83 #[.int .u16 (un s i : Nat)] w fun e w' => e = .returned (.bool b) ∧ w = w' := by
  refine (blank_any _ w).mono ?_
  rintro e w' ⟨rfl, rfl⟩
  exact ⟨by rw [← hb]; rfl, rfl⟩
set_option maxRecDepth 100000 in
set_option maxHeartbeats 2000000 in
theorem trim_any (s : ByteArray) (w : World) (hs : s.size ≤ maxLen) :
    Calls Tryd.prog 42 #[.string s] w fun e w' => e = .returned (.string (trimS s)) ∧ ∃ n, w' = w.drewN n := by
  have hl := ln_le s
  have hm : ((ln s : Nat) : Int) ≤ 4611686018427387903 := by unfold maxLen at hs; omega
  have H63 := Lib.hid hs
  have c1 := fun W => len_any s W H63.out
  clear hs hl
  go_enter Tryd.func42, Tryd.ntmps42
  go_wp2_with (go_at_call 28; refine (c1 _).mono ?_; rintro e w' ⟨rfl, rfl⟩)
  go_loopw [3] (fun i wr => ∃ k f : Nat, i = .int .i64 k ∧ k ≤ ln s ∧ tF s f k = frS s ∧ ln s ≤ k + f ∧ ∃ n, wr = w.drewN n) (fun i _ => ln s - (intOf i).toNat)
  case atStart => exact ⟨0, ln s, rfl, Nat.zero_le _, rfl, by omega, 0, rfl⟩
  case round =>
    obtain ⟨k, fuel, rfl, hk, hF, hfu, n, rfl⟩ := hrel
    have HF := Lib.hid hF
    clear hF
    by_cases hc : k < ln s ∧ blU s k = true
    · obtain ⟨hlt, hb⟩ := hc
      obtain ⟨f, rfl⟩ : ∃ f, fuel = f + 1 := ⟨fuel - 1, by omega⟩
      have HG := Lib.hid (show tF s f (k + 1) = frS s by rw [← HF.out, tF_go s f k hlt hb])
      have c2 := fun W => at_any s k W hlt H63.out
      have c3 := fun W => blankU_any s k W true hb
      have hlt' : (k : Int) < (ln s : Int) := by omega
      clear hb HF
      go_wp2_with (first | (go_at_call 65; refine (c2 _).mono ?_; rintro e w' ⟨rfl, n2, rfl⟩) | (go_at_call 83; refine (c3 _).mono ?_; rintro e w' ⟨rfl, rfl⟩))
      go_roundw
      case rel => exact ⟨k + 1, f, by go_num, by omega, HG.out, by omega, _, rfl⟩
      case measure => simp [intOf]; omega
    · have HK := Lib.hid (show frS s = k by rw [← HF.out, tF_end s fuel k hc])
      have hor : (¬ ((k : Int) < (ln s : Int))) ∨ ((k : Int) < (ln s : Int) ∧ blU s k = false ∧ k < ln s) := by
        by_cases h : k < ln s
        · right; refine ⟨by omega, ?_, h⟩
          cases hb : blU s k
          · rfl
          · exact absurd ⟨h, hb⟩ hc
        · left; omega
      have H1 := Lib.hid (fun W (h : k < ln s) => at_any s k W h H63.out)
      have H2 := Lib.hid (fun W (h : blU s k = false) => blankU_any s k W false h)
      clear hc HF
      rcases hor with h1 | ⟨h1, h2, h3⟩
      all_goals
        try have c2 := fun W => H1.out W h3
        try have c3 := fun W => H2.out W h2
        try clear h2
        go_wp2_with (first | (go_at_call 65; refine (c2 _).mono ?_; rintro e w' ⟨rfl, n2, rfl⟩) | (go_at_call 83; refine (c3 _).mono ?_; rintro e w' ⟨rfl, rfl⟩))
        go_loopw [4] (fun i wr => ∃ t f : Nat, i = .int .i64 t ∧ t ≤ ln s ∧ tT s k f t = tT s k (ln s) (ln s) ∧ t ≤ f ∧ ∃ n, wr = w.drewN n) (fun i _ => (intOf i).toNat)
        case atStart => exact ⟨ln s, ln s, rfl, by omega, rfl, by omega, _, rfl⟩
        case round =>
          obtain ⟨t, fu, rfl, ht, hT, hfu2, n3, rfl⟩ := hrel
          have HT := Lib.hid hT
          clear hT
          by_cases hc2 : k < t ∧ blU s (t - 1) = true
          · obtain ⟨hlt2, hb2⟩ := hc2
            obtain ⟨t, rfl⟩ : ∃ t', t = t' + 1 := ⟨t - 1, by omega⟩
            obtain ⟨f2, rfl⟩ : ∃ f', fu = f' + 1 := ⟨fu - 1, by omega⟩
            have hb3 : blU s t = true := hb2
            have HG2 := Lib.hid (show tT s k f2 t = tT s k (ln s) (ln s) by rw [← HT.out, tT_go s k f2 t hlt2 hb3])
            have c4 := fun W => at_any s t W (by omega) H63.out
            have c5 := fun W => blankU_any s t W true hb3
            have g1 : (k : Int) < (t : Int) + 1 := by omega
            clear hb2 hb3 HT
            go_wp2_with (first | (go_at_call 65; refine (c4 _).mono ?_; rintro e w' ⟨rfl, n4, rfl⟩) | (go_at_call 83; refine (c5 _).mono ?_; rintro e w' ⟨rfl, rfl⟩))
            go_roundw
            case rel => exact ⟨t, f2, rfl, by omega, HG2.out, by omega, _, rfl⟩
            case measure => simp [intOf]
          · have HK2 := Lib.hid (show toS s = t by unfold toS; rw [HK.out, ← HT.out, tT_end s k fu t hc2])
            have hor2 : (¬ ((k : Int) < (t : Int))) ∨ ((k : Int) < (t : Int) ∧ blU s (t - 1) = false ∧ k < t) := by
              by_cases h : k < t
              · right; refine ⟨by omega, ?_, h⟩
                cases hb : blU s (t - 1)
                · rfl
                · exact absurd ⟨h, hb⟩ hc2
              · left; omega
            have hsl := fun W => slice_any s k t W H63.out
            have HR := Lib.hid (show trimS s = slS s k t by unfold trimS; rw [HK.out, HK2.out])
            clear hc2 HT
            rcases hor2 with g1 | ⟨g1, g2, g3⟩
            · go_wp2_with (go_at_call 30; refine (hsl _).mono ?_; rintro e w' ⟨rfl, rfl⟩)
              go_ret
              exact ⟨by rw [HR.out]; rfl, _, rfl⟩
            · obtain ⟨t, rfl⟩ : ∃ t', t = t' + 1 := ⟨t - 1, by omega⟩
              have c4 := fun W => at_any s t W (by omega) H63.out
              have c5 := fun W => blankU_any s t W false g2
              have g1' : (k : Int) < (t : Int) + 1 := by omega
              clear g2 g1
              go_wp2_with (first | (go_at_call 65; refine (c4 _).mono ?_; rintro e w' ⟨rfl, n4, rfl⟩) | (go_at_call 83; refine (c5 _).mono ?_; rintro e w' ⟨rfl, rfl⟩) | (go_at_call 30; refine (hsl _).mono ?_; rintro e w' ⟨rfl, rfl⟩))
              go_ret
              exact ⟨by rw [HR.out]; rfl, _, rfl⟩
theorem spU_any (s : ByteArray) (i : Nat) (w : World) (b : Bool) (hb : spB ((un s i : Nat) : Int) = b) : Calls Tryd.prog 45 #[.int .u16 (un s i : Nat)] w fun e w' => e = .returned (.bool b) ∧ w = w' := by
  refine (rspace_any _ w).mono ?_
  rintro e w' ⟨rfl, rfl⟩
  exact ⟨by rw [← hb], rfl⟩
theorem enU_any (s : ByteArray) (i : Nat) (w : World) (b : Bool) (hb : enB ((un s i : Nat) : Int) = b) : Calls Tryd.prog 47 #[.int .u16 (un s i : Nat)] w fun e w' => e = .returned (.bool b) ∧ w = w' := by
  refine (rends_any _ w).mono ?_
  rintro e w' ⟨rfl, rfl⟩
  exact ⟨by rw [← hb], rfl⟩
theorem blU_true {s : ByteArray} {i : Nat} (h : blU s i = true) : spB ((un s i : Nat) : Int) = true ∨ (spB ((un s i : Nat) : Int) = false ∧ enB ((un s i : Nat) : Int) = true) := by
  unfold blU blB at h
  cases h1 : spB ((un s i : Nat) : Int)
  · right; rw [h1] at h; exact ⟨rfl, by simpa using h⟩
  · left; rfl
theorem blU_false {s : ByteArray} {i : Nat} (h : blU s i = false) : spB ((un s i : Nat) : Int) = false ∧ enB ((un s i : Nat) : Int) = false := by
  unfold blU blB at h
  simpa using h
set_option maxRecDepth 100000 in
set_option maxHeartbeats 4000000 in
theorem rtrim_any (s : ByteArray) (w : World) (hs : s.size ≤ maxLen) :
    Calls Tryd.prog 43 #[.string s] w fun e w' => e = .returned (.string (trimS s)) ∧ ∃ n, w' = w.drewN n := by
  have hl := ln_le s
  have hm : ((ln s : Nat) : Int) ≤ 4611686018427387903 := by unfold maxLen at hs; omega
  have H63 := Lib.hid hs
  have c1 := fun W => rlen_any s W H63.out
  clear hs hl
  go_enter Tryd.func43, Tryd.ntmps43
  go_wp2_with (go_at_call 29; refine (c1 _).mono ?_; rintro e w' ⟨rfl, rfl⟩)
  go_loopw [3] (fun i wr => ∃ k f : Nat, i = .int .i64 k ∧ k ≤ ln s ∧ tF s f k = frS s ∧ ln s ≤ k + f ∧ ∃ n, wr = w.drewN n) (fun i _ => ln s - (intOf i).toNat)
  case atStart => exact ⟨0, ln s, rfl, Nat.zero_le _, rfl, by omega, 0, rfl⟩
  case round =>
    obtain ⟨k, fuel, rfl, hk, hF, hfu, n, rfl⟩ := hrel
    have HF := Lib.hid hF
    clear hF
    by_cases hc : k < ln s ∧ blU s k = true
    · obtain ⟨hlt, hb⟩ := hc
      obtain ⟨f, rfl⟩ : ∃ f, fuel = f + 1 := ⟨fuel - 1, by omega⟩
      have HG := Lib.hid (show tF s f (k + 1) = frS s by rw [← HF.out, tF_go s f k hlt hb])
      have c2 := fun W => rat_any s k W hlt H63.out
      have hlt' : (k : Int) < (ln s : Int) := by omega
      have H2 := Lib.hid (fun W b (h : spB ((un s k : Nat) : Int) = b) => spU_any s k W b h)
      have H3 := Lib.hid (fun W b (h : enB ((un s k : Nat) : Int) = b) => enU_any s k W b h)
      clear HF
      rcases blU_true hb with g1 | ⟨g1, g2⟩
      all_goals
        have c3 := fun W => H2.out W _ g1
        try have c4 := fun W => H3.out W _ g2
        clear hb g1
        try clear g2
        go_wp2_with (first | (go_at_call 69; refine (c2 _).mono ?_; rintro e w' ⟨rfl, n2, rfl⟩) | (go_at_call 45; refine (c3 _).mono ?_; rintro e w' ⟨rfl, rfl⟩) | (go_at_call 47; refine (c4 _).mono ?_; rintro e w' ⟨rfl, rfl⟩))
        go_roundw
        case rel => exact ⟨k + 1, f, by go_num, by omega, HG.out, by omega, _, rfl⟩
        case measure => simp [intOf]; omega
    · have HK := Lib.hid (show frS s = k by rw [← HF.out, tF_end s fuel k hc])
      have hor : (¬ ((k : Int) < (ln s : Int))) ∨ ((k : Int) < (ln s : Int) ∧ blU s k = false ∧ k < ln s) := by
        by_cases h : k < ln s
        · right; refine ⟨by omega, ?_, h⟩
          cases hb : blU s k
          · rfl
          · exact absurd ⟨h, hb⟩ hc
        · left; omega
      have H1 := Lib.hid (fun W (h : k < ln s) => rat_any s k W h H63.out)
      have H2 := Lib.hid (fun W (h : blU s k = false) => spU_any s k W false (blU_false h).1)
      have H3 := Lib.hid (fun W (h : blU s k = false) => enU_any s k W false (blU_false h).2)
      clear hc HF
      rcases hor with h1 | ⟨h1, h2, h3⟩
      all_goals
        try have c2 := fun W => H1.out W h3
        try have c3 := fun W => H2.out W h2
        try have c4 := fun W => H3.out W h2
        try clear h2
        go_wp2_with (first | (go_at_call 69; refine (c2 _).mono ?_; rintro e w' ⟨rfl, n2, rfl⟩) | (go_at_call 45; refine (c3 _).mono ?_; rintro e w' ⟨rfl, rfl⟩) | (go_at_call 47; refine (c4 _).mono ?_; rintro e w' ⟨rfl, rfl⟩))
        go_loopw [4] (fun i wr => ∃ t f : Nat, i = .int .i64 t ∧ t ≤ ln s ∧ tT s k f t = tT s k (ln s) (ln s) ∧ t ≤ f ∧ ∃ n, wr = w.drewN n) (fun i _ => (intOf i).toNat)
        case atStart => exact ⟨ln s, ln s, rfl, by omega, rfl, by omega, _, rfl⟩
        case round =>
          obtain ⟨t, fu, rfl, ht, hT, hfu2, n3, rfl⟩ := hrel
          have HT := Lib.hid hT
          clear hT
          try clear c2 c3 c4
          by_cases hc2 : k < t ∧ blU s (t - 1) = true
          · obtain ⟨hlt2, hb2⟩ := hc2
            obtain ⟨t, rfl⟩ : ∃ t', t = t' + 1 := ⟨t - 1, by omega⟩
            obtain ⟨f2, rfl⟩ : ∃ f', fu = f' + 1 := ⟨fu - 1, by omega⟩
            have hb3 : blU s t = true := hb2
            have HG2 := Lib.hid (show tT s k f2 t = tT s k (ln s) (ln s) by rw [← HT.out, tT_go s k f2 t hlt2 hb3])
            have c5 := fun W => rat_any s t W (by omega) H63.out
            have g0 : (k : Int) < (t : Int) + 1 := by omega
            have G2 := Lib.hid (fun W b (h : spB ((un s t : Nat) : Int) = b) => spU_any s t W b h)
            have G3 := Lib.hid (fun W b (h : enB ((un s t : Nat) : Int) = b) => enU_any s t W b h)
            clear HT hb2
            rcases blU_true hb3 with g1 | ⟨g1, g2⟩
            all_goals
              have c6 := fun W => G2.out W _ g1
              try have c7 := fun W => G3.out W _ g2
              clear hb3 g1
              try clear g2
              go_wp2_with (first | (go_at_call 69; refine (c5 _).mono ?_; rintro e w' ⟨rfl, n4, rfl⟩) | (go_at_call 45; refine (c6 _).mono ?_; rintro e w' ⟨rfl, rfl⟩) | (go_at_call 47; refine (c7 _).mono ?_; rintro e w' ⟨rfl, rfl⟩))
              go_roundw
              case rel => exact ⟨t, f2, rfl, by omega, HG2.out, by omega, _, rfl⟩
              case measure => simp [intOf]
          · have HK2 := Lib.hid (show toS s = t by unfold toS; rw [HK.out, ← HT.out, tT_end s k fu t hc2])
            have hor2 : (¬ ((k : Int) < (t : Int))) ∨ ((k : Int) < (t : Int) ∧ blU s (t - 1) = false ∧ k < t) := by
              by_cases h : k < t
              · right; refine ⟨by omega, ?_, h⟩
                cases hb : blU s (t - 1)
                · rfl
                · exact absurd ⟨h, hb⟩ hc2
              · left; omega
            have hsl := fun W => rslice_any s k t W H63.out
            have HR := Lib.hid (show trimS s = slS s k t by unfold trimS; rw [HK.out, HK2.out])
            clear hc2 HT
            rcases hor2 with g1 | ⟨g1, g2, g3⟩
            · go_wp2_with (go_at_call 31; refine (hsl _).mono ?_; rintro e w' ⟨rfl, rfl⟩)
              go_ret
              exact ⟨by rw [HR.out]; rfl, _, rfl⟩
            · obtain ⟨t, rfl⟩ : ∃ t', t = t' + 1 := ⟨t - 1, by omega⟩
              have g2' : blU s t = false := g2
              have c5 := fun W => rat_any s t W (by omega) H63.out
              have c6 := fun W => spU_any s t W false (blU_false g2').1
              have c7 := fun W => enU_any s t W false (blU_false g2').2
              have g1' : (k : Int) < (t : Int) + 1 := by omega
              clear g2 g2' g1
              go_wp2_with (first | (go_at_call 69; refine (c5 _).mono ?_; rintro e w' ⟨rfl, n4, rfl⟩) | (go_at_call 45; refine (c6 _).mono ?_; rintro e w' ⟨rfl, rfl⟩) | (go_at_call 47; refine (c7 _).mono ?_; rintro e w' ⟨rfl, rfl⟩) | (go_at_call 31; refine (hsl _).mono ?_; rintro e w' ⟨rfl, rfl⟩))
              go_ret
              exact ⟨by rw [HR.out]; rfl, _, rfl⟩
set_option maxRecDepth 100000 in
set_option maxHeartbeats 2000000 in
theorem letters_any (s : ByteArray) (w : World) (hs : s.size ≤ 35184372088832) (hT : Lib.Utf8Tabs 0 1 w) :
    Calls Tryd.prog 8 #[.string s] w fun e w' => e = .returned (.bool true) ∧ Below w.heap.size w w' := by
  have h63 : s.size ≤ maxLen := by unfold maxLen; omega
  have c1 := fun W => upper_any s W hs
  have c2 := fun W => rupper_any s W hs
  have c3 := fun W => lower_any s W (by omega)
  have c4 := fun W => rlower_any s W (by omega)
  have c5 := fun W => trim_any s W h63
  have c6 := fun W => rtrim_any s W h63
  have ha := fun W (hb : Below w.heap.size w W) => awake_any W (tabs_below hT (tabs_two hT) hb)
  clear hT hs h63
  go_enter Tryd.func8, Tryd.ntmps8
  go_wp2_with fail
  refine (c1 _).mono ?_
  rintro e W1 ⟨rfl, b1⟩
  go_wp2_with fail
  refine (c2 _).mono ?_
  rintro e W2 ⟨rfl, b2⟩
  have B2 := below_le b1 b2
  go_wp2_with fail
  refine (c3 _).mono ?_
  rintro e W3 ⟨rfl, b3⟩
  have B3 := below_le B2 b3
  go_wp2_with fail
  refine (c4 _).mono ?_
  rintro e W4 ⟨rfl, b4⟩
  have B4 := below_le B3 b4
  go_wp2_with fail
  refine (c5 _).mono ?_
  rintro e W5 ⟨rfl, n5, rfl⟩
  go_wp2_with fail
  refine (c6 _).mono ?_
  rintro e W6 ⟨rfl, n6, rfl⟩
  go_wp2_with (go_at_call 16; refine (ha _ (below_drewN' B4 _)).mono ?_; rintro e w' ⟨rfl, hb⟩)
  go_ret
  exact ⟨rfl, below_le (below_drewN' B4 _) hb⟩
end Go.Proofs.YthnkidncjkhndaaDoor
