/-
  Contracts of Unit, of the law's comparison of units, and of the law UstrUnits (texts and lists of at most 2^45 bytes and units).
-/
import Derived.Test.YthnkidncjkhndaaDoorUnits
namespace Go.Proofs.YthnkidncjkhndaaDoor
open Go.RowKit
def unOk (s : ByteArray) (i : Int) : Bool := decide (0 ≤ i) && decide (i < ln s)
def unV (s : ByteArray) (i : Int) : Nat := if unOk s i then un s i.toNat else 0
set_option maxRecDepth 100000 in
theorem unit_any (s : ByteArray) (i : Int) (w : World) (hs : s.size ≤ maxLen) :
    Calls Tryd.prog 19 #[.string s, .int .i64 i] w fun e w' => e = .returned (.tuple #[.int .u16 (unV s i), .bool (unOk s i)]) ∧ ∃ n, w' = w.drewN n := by
  have c1 := fun W => len_any s W hs
  by_cases h0 : 0 ≤ i
  · obtain ⟨k, rfl⟩ := Int.eq_ofNat_of_zero_le h0
    by_cases h1 : k < ln s
    · have e1 : unOk s (k : Int) = true := by simp [unOk]; omega
      have e2 : unV s (k : Int) = un s k := by unfold unV; rw [if_pos e1]; rfl
      have c2 := fun W => at_any s k W h1 hs
      have h1' : (k : Int) < (ln s : Int) := by omega
      rw [e1, e2]
      clear e1 e2
      go_enter Tryd.func19, Tryd.ntmps19
      go_wp2_with (first | (go_at_call 28; refine (c1 _).mono ?_; rintro e w' ⟨rfl, rfl⟩) | (go_at_call 65; refine (c2 _).mono ?_; rintro e w' ⟨rfl, n, rfl⟩))
      go_ret2
      exact ⟨rfl, n, rfl⟩
    · have e1 : unOk s (k : Int) = false := by simp [unOk]; omega
      have e2 : unV s (k : Int) = 0 := by unfold unV; rw [e1]; rfl
      have h1' : ¬ ((k : Int) < (ln s : Int)) := by omega
      rw [e1, e2]
      clear e1 e2
      go_enter Tryd.func19, Tryd.ntmps19
      go_wp2_with (first | (go_at_call 28; refine (c1 _).mono ?_; rintro e w' ⟨rfl, rfl⟩))
      go_ret2
      exact ⟨rfl, 0, rfl⟩
  · have e1 : unOk s i = false := by simp [unOk]; omega
    have e2 : unV s i = 0 := by unfold unV; rw [e1]; rfl
    rw [e1, e2]
    clear e1 e2
    go_enter Tryd.func19, Tryd.ntmps19
    go_wp2_with (first | (go_at_call 28; refine (c1 _).mono ?_; rintro e w' ⟨rfl, rfl⟩))
    go_ret2
    exact ⟨rfl, 0, rfl⟩
set_option maxRecDepth 100000 in
theorem runit_any (s : ByteArray) (i : Int) (w : World) (hs : s.size ≤ maxLen) :
    Calls Tryd.prog 20 #[.string s, .int .i64 i] w fun e w' => e = .returned (.tuple #[.int .u16 (unV s i), .bool (unOk s i)]) ∧ ∃ n, w' = w.drewN n := by
  have c1 := fun W => rlen_any s W hs
  by_cases h0 : 0 ≤ i
  · obtain ⟨k, rfl⟩ := Int.eq_ofNat_of_zero_le h0
    by_cases h1 : k < ln s
    · have e1 : unOk s (k : Int) = true := by simp [unOk]; omega
      have e2 : unV s (k : Int) = un s k := by unfold unV; rw [if_pos e1]; rfl
      have c2 := fun W => rat_any s k W h1 hs
      have h1' : (k : Int) < (ln s : Int) := by omega
      rw [e1, e2]
      clear e1 e2
      go_enter Tryd.func20, Tryd.ntmps20
      go_wp2_with (first | (go_at_call 29; refine (c1 _).mono ?_; rintro e w' ⟨rfl, rfl⟩) | (go_at_call 69; refine (c2 _).mono ?_; rintro e w' ⟨rfl, n, rfl⟩))
      go_ret2
      exact ⟨rfl, n, rfl⟩
    · have e1 : unOk s (k : Int) = false := by simp [unOk]; omega
      have e2 : unV s (k : Int) = 0 := by unfold unV; rw [e1]; rfl
      have h1' : ¬ ((k : Int) < (ln s : Int)) := by omega
      rw [e1, e2]
      clear e1 e2
      go_enter Tryd.func20, Tryd.ntmps20
      go_wp2_with (first | (go_at_call 29; refine (c1 _).mono ?_; rintro e w' ⟨rfl, rfl⟩))
      go_ret2
      exact ⟨rfl, 0, rfl⟩
  · have e1 : unOk s i = false := by simp [unOk]; omega
    have e2 : unV s i = 0 := by unfold unV; rw [e1]; rfl
    rw [e1, e2]
    clear e1 e2
    go_enter Tryd.func20, Tryd.ntmps20
    go_wp2_with (first | (go_at_call 29; refine (c1 _).mono ?_; rintro e w' ⟨rfl, rfl⟩))
    go_ret2
    exact ⟨rfl, 0, rfl⟩
set_option maxRecDepth 100000 in
set_option maxHeartbeats 1000000 in
theorem same_any (s : ByteArray) (a B : Nat) (v : Value) (w : World) (hn : 2 * ln s ≤ 140737488355328) (hA : w.rowIs a 29 (ln s) (fun j => .int .u16 (un s j : Nat))) (hv : Own16 B (us s) v w) :
    Calls Tryd.prog 25 #[.slice (some ⟨a, 0, none⟩) (ln s) (ln s), v] w fun e w' => e = .returned (.bool true) ∧ ∃ n, w' = w.drewN n := by
  have hm : ((ln s : Nat) : Int) ≤ 70368744177664 := by omega
  have hul := us_length s
  rcases hv.2 with ⟨rfl, h0⟩ | ⟨g, cap, cur, rfl, hB, hg, hcap, hmax, hcur, htk⟩
  · have h0' : ln s = 0 := by rw [← hul]; exact h0
    rw [h0']
    clear hA hv hul h0 h0' hm hn
    go_enter Tryd.func25, Tryd.ntmps25
    go_wp2
    go_loopw [5] (fun i wr => i = .int .i64 0 ∧ ∃ n, wr = w.drewN n) (fun _ _ => 0)
    case atStart => exact ⟨rfl, 0, rfl⟩
    case round =>
      obtain ⟨rfl, n, rfl⟩ := hrel
      go_wp2
      go_ret
      exact ⟨rfl, n, rfl⟩
  · have hcells := hv.cells (g := g) rfl
    rw [hul]
    have hc2 : ∀ k, k < ln s → w.cell? ⟨g, k, none⟩ = some (.int .u16 (un s k : Nat)) := by
      intro k hk
      have hk' : k < (us s).length := by rw [hul]; exact hk
      have := hcells k (.int .u16 (un s k : Nat)) (by rw [List.getElem?_map, List.getElem?_eq_getElem hk', us_getElem]; rfl)
      by_cases hz : k = 0
      · subst hz; simpa [Addr.add] using this
      · simpa [Addr.add, hz] using this
    have hc1 : ∀ k, k < ln s → w.cell? ⟨a, k, none⟩ = some (.int .u16 (un s k : Nat)) := fun k hk => hA.cell hk
    have H1 := Lib.hid hc1
    have H2 := Lib.hid hc2
    clear hA hv hcells hul hg hcap hmax hcur htk hc1 hc2 hB hn
    go_enter Tryd.func25, Tryd.ntmps25
    go_wp2
    go_loopw [5] (fun i wr => ∃ k : Nat, i = .int .i64 k ∧ k ≤ ln s ∧ ∃ n, wr = w.drewN n) (fun i _ => ln s - (intOf i).toNat)
    case atStart => exact ⟨0, rfl, Nat.zero_le _, 0, rfl⟩
    case round =>
      obtain ⟨k, rfl, hk, n, rfl⟩ := hrel
      by_cases hlt : k < ln s
      · have d1 := H1.out k hlt
        have d2 := H2.out k hlt
        have b1 : (0 : Int) ≤ (k : Int) := by omega
        have b2 : (k : Int) < (ln s : Int) := by omega
        go_wp2
        go_quiet (fail)
        go_wp2
        go_roundw
        case rel => exact ⟨k + 1, by go_num, by omega, _, rfl⟩
        case measure => simp [intOf]; omega
      · go_wp2
        go_ret
        exact ⟨rfl, n, rfl⟩
theorem below_le {W w w' : World} (h : Below W.heap.size W w) (h2 : Below w.heap.size w w') : Below W.heap.size W w' := h.trans (h2.mono h.size)
set_option maxRecDepth 100000 in
set_option maxHeartbeats 2000000 in
/-- The law, whatever the two Makes' common answer is. -/
theorem unitsLaw_any (lv : Value) (R : List UInt8) (s : ByteArray) (i : Int) (w : World) (hs : s.size ≤ 35184372088832) (hT : Lib.Utf8Tabs 0 1 w)
    (hm1 : ∀ W, Below w.heap.size w W → Calls Tryd.prog 23 #[lv] W fun e W' => e = .returned (.string ⟨R.toArray⟩) ∧ Below W.heap.size W W')
    (hm2 : ∀ W, Below w.heap.size w W → Calls Tryd.prog 24 #[lv] W fun e W' => e = .returned (.string ⟨R.toArray⟩) ∧ Below W.heap.size W W') :
    Calls Tryd.prog 5 #[lv, .string s, .int .i64 i] w fun e w' => e = .returned (.bool true) ∧ Below w.heap.size w w' := by
  have h63 : s.size ≤ maxLen := by unfold maxLen; omega
  have hl := ln_le s
  have HL := Lib.hid (show 2 * ln s ≤ 140737488355328 by omega)
  have c1 := fun W => unit_any s i W h63
  have c2 := fun W => runit_any s i W h63
  have c3 := fun W => wide_any s W hs
  have c4 := fun W => rwide_any s W hs
  have c5 := fun W => units_any s W (by omega)
  have c6 := fun W => runits_any s W (by omega)
  have c7 := fun W => len_any s W h63
  have c8 := fun W => rlen_any s W h63
  have ha := fun W (hb : Below w.heap.size w W) => awake_any W (tabs_below hT (tabs_two hT) hb)
  clear hT hl hs h63
  go_enter Tryd.func5, Tryd.ntmps5
  go_wp2_with fail
  refine (c1 _).mono ?_
  rintro e W ⟨rfl, n1, rfl⟩
  go_wp2_with fail
  refine (c2 _).mono ?_
  rintro e W ⟨rfl, n2, rfl⟩
  go_wp2_with fail
  refine (c3 _).mono ?_
  rintro e W3 ⟨rfl, b3⟩
  have B3 : Below w.heap.size w W3 := below_le (below_drewN' (Below.refl _ w) _) b3
  go_wp2_with fail
  refine (c4 _).mono ?_
  rintro e W4 ⟨rfl, b4⟩
  have B4 := below_le B3 b4
  go_wp2_with fail
  refine (hm1 _ B4).mono ?_
  rintro e W5 ⟨rfl, b5⟩
  have B5 := below_le B4 b5
  go_wp2_with fail
  refine (hm2 _ B5).mono ?_
  rintro e W6 ⟨rfl, b6⟩
  have B6 := below_le B5 b6
  go_wp2_with fail
  refine (c5 _).mono ?_
  rintro e W7 ⟨rfl, r7, b7⟩
  have B7 := below_le B6 b7
  have hlt := World.rowIs.lt r7
  go_wp2_with fail
  refine (c6 _).mono ?_
  rintro e W8 ⟨v8, rfl, r8, b8⟩
  have B8 := below_le B7 b8
  have r78 := row_below r7 hlt b8
  go_wp2_with fail
  refine (same_any s _ _ _ _ HL.out r78 r8).mono ?_
  rintro e W9 ⟨rfl, n9, rfl⟩
  go_wp2_with (first | (go_at_call 28; refine (c7 _).mono ?_; rintro e w' ⟨rfl, rfl⟩) | (go_at_call 29; refine (c8 _).mono ?_; rintro e w' ⟨rfl, rfl⟩) | (go_at_call 16; refine (ha _ (below_drewN' B8 _)).mono ?_; rintro e w' ⟨rfl, hb⟩))
  go_ret
  exact ⟨rfl, below_le (below_drewN' B8 _) hb⟩
end Go.Proofs.YthnkidncjkhndaaDoor
