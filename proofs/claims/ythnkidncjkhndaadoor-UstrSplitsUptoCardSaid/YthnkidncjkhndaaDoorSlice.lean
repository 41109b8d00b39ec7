/-
  Contracts of the program's and the reference's Slice: any part of any text; and of the law UstrParts.
-/
import Derived.Test.YthnkidncjkhndaaDoorAwake
namespace Go.Proofs.YthnkidncjkhndaaDoor
open Go.RowKit
/-- The units from f on, up to t. -/
def slS (s : ByteArray) (f t : Int) : ByteArray := if max f 0 < min t (ln s) then s.extract (2 * (max f 0).toNat) (2 * (min t (ln s)).toNat) else { data := #[] }
theorem slS_mid (s : ByteArray) (f t : Int) (h0 : 0 ≤ f) (h1 : f < t) (h2 : t ≤ ln s) : slS s f t = s.extract (2 * f.toNat) (2 * t.toNat) := by
  unfold slS
  rw [Int.max_eq_left h0, Int.min_eq_left h2, if_pos h1]
set_option maxHeartbeats 1000000 in
theorem slice_any (s : ByteArray) (f t : Int) (w : World) (hs : s.size ≤ maxLen) :
    Calls Tryd.prog 30 #[.string s, .int .i64 f, .int .i64 t] w fun e w' => e = .returned (.string (slS s f t)) ∧ w = w' := by
  have hl := ln_le s
  have hm : (s.size : Int) ≤ 9223372036854775807 := by unfold maxLen at hs; omega
  have c1 := fun W => len_any s W hs
  have hsl : slS s f t = if max f 0 < min t (ln s) then s.extract (2 * (max f 0).toNat) (2 * (min t (ln s)).toNat) else { data := #[] } := rfl
  have hm1 : 0 ≤ max f 0 := by omega
  have hn1 : min t (ln s) ≤ ln s := by omega
  have hl2 : 2 * ((ln s : Nat) : Int) ≤ (s.size : Int) := by omega
  obtain ⟨m, hm0⟩ : ∃ m : Int, max f 0 = m := ⟨_, rfl⟩
  obtain ⟨n, hn0⟩ : ∃ n : Int, min t (ln s) = n := ⟨_, rfl⟩
  rw [hm0, hn0] at hsl
  rw [hm0] at hm1
  rw [hn0] at hn1
  by_cases h : m < n
  · rw [if_pos h] at hsl
    have HS := Lib.hid hsl
    have k1 : 2 * m ≤ 2 * n := by omega
    have k2 : 2 * n ≤ (s.size : Int) := by omega
    have k3 : 0 ≤ 2 * m := by omega
    have k4 : 0 ≤ 2 * n := by omega
    have e1 : (2 * m).toNat = 2 * m.toNat := by omega
    have e2 : (2 * n).toNat = 2 * n.toNat := by omega
    clear hsl hl hs hl2 hn1
    go_enter Tryd.func30, Tryd.ntmps30
    go_wp2_with (go_at_call 28; refine (c1 _).mono ?_; rintro e w' ⟨rfl, rfl⟩)
    go_ret
    exact ⟨by rw [HS.out]; rfl, rfl⟩
  · rw [if_neg h] at hsl
    have HS := Lib.hid hsl
    clear hsl hl hs hl2 hn1
    go_enter Tryd.func30, Tryd.ntmps30
    go_wp2_with (go_at_call 28; refine (c1 _).mono ?_; rintro e w' ⟨rfl, rfl⟩)
    go_ret
    exact ⟨by rw [HS.out]; rfl, rfl⟩
set_option maxHeartbeats 1000000 in
theorem rslice_any (s : ByteArray) (f t : Int) (w : World) (hs : s.size ≤ maxLen) :
    Calls Tryd.prog 31 #[.string s, .int .i64 f, .int .i64 t] w fun e w' => e = .returned (.string (slS s f t)) ∧ w = w' := by
  have hl := ln_le s
  have hm : (s.size : Int) ≤ 9223372036854775807 := by unfold maxLen at hs; omega
  have c1 := fun W => rlen_any s W hs
  have hl2 : 2 * ((ln s : Nat) : Int) ≤ (s.size : Int) := by omega
  have main : ∀ m n : Int, max f 0 = m → min t (ln s) = n → (m = f ∧ ¬ f < 0 ∨ m = 0 ∧ f < 0) → (n = t ∧ ¬ ((ln s : Nat) : Int) < t ∨ n = (ln s : Nat) ∧ ((ln s : Nat) : Int) < t) →
      Calls Tryd.prog 31 #[.string s, .int .i64 f, .int .i64 t] w fun e w' => e = .returned (.string (slS s f t)) ∧ w = w' := by
    intro m n hm0 hn0 hf ht
    have hsl : slS s f t = if m < n then s.extract (2 * m.toNat) (2 * n.toNat) else { data := #[] } := by unfold slS; rw [hm0, hn0]
    have hm1 : 0 ≤ m := by omega
    have hn1 : n ≤ ln s := by omega
    clear hm0 hn0
    by_cases h : m < n
    · rw [if_pos h] at hsl
      have HS := Lib.hid hsl
      have k1 : 2 * m ≤ 2 * n := by omega
      have k2 : 2 * n ≤ (s.size : Int) := by omega
      have k3 : 0 ≤ 2 * m := by omega
      have k4 : 0 ≤ 2 * n := by omega
      have e1 : (2 * m).toNat = 2 * m.toNat := by omega
      have e2 : (2 * n).toNat = 2 * n.toNat := by omega
      clear hsl hl hs hl2 hn1
      rcases hf with ⟨rfl, hf⟩ | ⟨rfl, hf⟩ <;> rcases ht with ⟨rfl, ht⟩ | ⟨rfl, ht⟩
      all_goals
        go_enter Tryd.func31, Tryd.ntmps31
        go_wp2_with (go_at_call 29; refine (c1 _).mono ?_; rintro e w' ⟨rfl, rfl⟩)
        go_ret
        exact ⟨by rw [HS.out]; rfl, rfl⟩
    · rw [if_neg h] at hsl
      have HS := Lib.hid hsl
      clear hsl hl hs hl2 hn1
      rcases hf with ⟨rfl, hf⟩ | ⟨rfl, hf⟩ <;> rcases ht with ⟨rfl, ht⟩ | ⟨rfl, ht⟩
      all_goals
        go_enter Tryd.func31, Tryd.ntmps31
        go_wp2_with (go_at_call 29; refine (c1 _).mono ?_; rintro e w' ⟨rfl, rfl⟩)
        go_ret
        exact ⟨by rw [HS.out]; rfl, rfl⟩
  exact main (max f 0) (min t (ln s)) rfl rfl (by omega) (by omega)
set_option maxHeartbeats 1000000 in
theorem parts_any (s : ByteArray) (f t : Int) (w : World) (hs : s.size ≤ maxLen) (hT : Lib.Utf8Tabs 0 1 w) :
    Calls Tryd.prog 6 #[.string s, .int .i64 f, .int .i64 t] w fun e w' => e = .returned (.bool true) ∧ Below w.heap.size w w' := by
  have ha := awake_any w hT
  clear hT
  go_enter Tryd.func6, Tryd.ntmps6
  go_wp2_with (first | (go_at_call 30; refine (slice_any s f t _ hs).mono ?_; rintro e w' ⟨rfl, rfl⟩) | (go_at_call 31; refine (rslice_any s f t _ hs).mono ?_; rintro e w' ⟨rfl, rfl⟩) | (go_at_call 16; refine ha.mono ?_; rintro e w' ⟨rfl, hb⟩))
  go_ret
  exact ⟨rfl, hb⟩
end Go.Proofs.YthnkidncjkhndaaDoor
