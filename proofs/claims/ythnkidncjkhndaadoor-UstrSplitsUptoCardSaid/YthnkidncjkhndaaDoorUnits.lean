/-
  Contracts of Make, Units and Unit of the program and of the reference.
-/
import Derived.Test.YthnkidncjkhndaaDoorWide
import Derived.Deep.OwnRows
namespace Go.Proofs.YthnkidncjkhndaaDoor
open Go.RowKit
theorem info29 : (Tryd.prog.info? 29).map (fun i => (i.zero, i.size, i.bytes)) = some (some (.int .u16 0), 1, 2) := by kernel_rfl
/-- Cells that hold units, below block B. -/
def Cells16 (ls : List Nat) (b off : Nat) (w : World) : Prop := ∀ (k u : Nat), ls[k]? = some u → w.cell? ⟨b, off + k, none⟩ = some (.int .u16 (u : Int))
theorem cells16_below {ls : List Nat} {b off B : Nat} {w w' : World} (h : Cells16 ls b off w) (hb : b < B) (hbw : Below B w w') : Cells16 ls b off w' := by
  intro k u hk
  rw [hbw.cell (p := ⟨b, off + k, none⟩) hb]
  exact h k u hk
set_option maxRecDepth 100000 in
set_option maxHeartbeats 1000000 in
theorem make_any (ls : List Nat) (hu : ∀ u ∈ ls, u < 65536) (b off cap : Nat) (w : World) (hb : b < w.heap.size) (hc : Cells16 ls b off w) (hs : 2 * ls.length ≤ 140737488355328) :
    Calls Tryd.prog 23 #[.slice (some ⟨b, off, none⟩) ls.length cap] w fun e w' => e = .returned (.string ⟨(bL ls).toArray⟩) ∧ Below w.heap.size w w' := by
  obtain ⟨N, hN⟩ : ∃ N, ls.length = N := ⟨_, rfl⟩
  rw [hN] at hs ⊢
  have hm : (N : Int) ≤ 70368744177664 := by omega
  have HS := Lib.hid hs
  have HN := Lib.hid hN
  clear hs hN
  have hg : Calls Tryd.prog 59 #[.pointer (some ⟨w.heap.size, 0, none⟩), .int .i64 (2 * (N : Int))] (w.alloc (.cells #[.pointer none, .slice none 0 0] 54)) fun e w' => e = .returned (.tuple #[]) ∧ (Lib.BuilderAt 54 5 w.heap.size w.heap.size (.pointer (some ⟨w.heap.size, 0, none⟩)) [] w' ∧ Below w.heap.size (w.alloc (.cells #[.pointer none, .slice none 0 0] 54)) w') :=
    Tryd.Builder_Grow_fresh w.heap.size w.heap.size (2 * N) _ (Nat.le_refl _) (alloc_new w _) (by simp) (by have := HS.out; omega)
  go_enter Tryd.func23, Tryd.ntmps23
  go_wp2_with fail
  refine hg.mono ?_
  rintro e w1 ⟨rfl, hb1, bl1⟩
  have hbl : Below w.heap.size w w1 := ((Below.refl w.heap.size w).alloc (Nat.le_refl _) _).trans bl1
  clear hg
  go_wp2
  go_loopw [12] (fun i wr => ∃ k : Nat, i = .int .i64 k ∧ k ≤ N ∧ Bld w.heap.size (bL (ls.take k)) wr ∧ Below w.heap.size w wr) (fun i _ => N - (intOf i).toNat)
  case atStart => exact ⟨0, rfl, Nat.zero_le _, Lib.IsBuilderF.of (.inr hb1), hbl⟩
  case round =>
    obtain ⟨k, rfl, hk, hI, hbw⟩ := hrel
    have hsz := bld_lt hI
    by_cases hlt : k < N
    · have hlt2 : k < ls.length := by rw [HN.out]; exact hlt
      have hcell := cells16_below hc hb hbw k ls[k] (List.getElem?_eq_getElem hlt2)
      have hu1 := hu _ (List.getElem_mem hlt2)
      obtain ⟨u, hue⟩ : ∃ u, ls[k] = u := ⟨_, rfl⟩
      rw [hue] at hcell hu1
      have hl := take_len ls k
      have hr := fun W h hb => writeUnit_any w.heap.size (bL (ls.take k)) u hu1 W h (by rw [bL_length]; have := HS.out; omega) hb
      have HG := Lib.hid (show ls.take (k + 1) = ls.take k ++ [u] by rw [List.take_succ_eq_append_getElem hlt2, hue])
      clear hl hu1 hue hc hu
      go_wp2_with fail
      refine (hr _ hI (by omega)).mono ?_
      rintro e w2 ⟨rfl, hI2, hb2⟩
      go_wp2
      go_roundw
      case rel => exact ⟨k + 1, by go_num, by omega, by rw [HG.out, bL_append]; exact hI2, hbw.trans hb2⟩
      case measure => simp [intOf]; omega
    · have hS := Tryd.Builder_String_any_k w.heap.size w.heap.size _ wr hI (by omega)
      have HZ := Lib.hid (show ls.take k = ls from List.take_of_length_le (by rw [HN.out]; omega))
      clear hc hu
      go_wp2_with (go_at_call 62; refine hS.mono ?_; rintro e w2 ⟨rfl, _, hb2, _⟩)
      go_ret
      rw [HZ.out]
      exact ⟨rfl, hbw.trans hb2⟩
set_option maxRecDepth 100000 in
set_option maxHeartbeats 1000000 in
theorem make_none (a : Option Addr) (cap : Nat) (w : World) : Calls Tryd.prog 23 #[.slice a 0 cap] w fun e w' => e = .returned (.string ⟨#[]⟩) ∧ Below w.heap.size w w' := by
  have hg : Calls Tryd.prog 59 #[.pointer (some ⟨w.heap.size, 0, none⟩), .int .i64 0] (w.alloc (.cells #[.pointer none, .slice none 0 0] 54)) fun e w' => e = .returned (.tuple #[]) ∧ (Lib.BuilderAt 54 5 w.heap.size w.heap.size (.pointer (some ⟨w.heap.size, 0, none⟩)) [] w' ∧ Below w.heap.size (w.alloc (.cells #[.pointer none, .slice none 0 0] 54)) w') :=
    Tryd.Builder_Grow_fresh w.heap.size w.heap.size 0 _ (Nat.le_refl _) (alloc_new w _) (by simp) (by omega)
  go_enter Tryd.func23, Tryd.ntmps23
  go_wp2_with fail
  refine hg.mono ?_
  rintro e w1 ⟨rfl, hb1, bl1⟩
  have hbl : Below w.heap.size w w1 := ((Below.refl w.heap.size w).alloc (Nat.le_refl _) _).trans bl1
  clear hg
  go_wp2
  go_loopw [12] (fun i wr => i = .int .i64 0 ∧ Bld w.heap.size [] wr ∧ Below w.heap.size w wr) (fun _ _ => 0)
  case atStart => exact ⟨rfl, Lib.IsBuilderF.of (.inr hb1), hbl⟩
  case round =>
    obtain ⟨rfl, hI, hbw⟩ := hrel
    have hsz := bld_lt hI
    have hS := Tryd.Builder_String_any_k w.heap.size w.heap.size _ wr hI (by omega)
    go_wp2_with (go_at_call 62; refine hS.mono ?_; rintro e w2 ⟨rfl, _, hb2, _⟩)
    go_ret
    exact ⟨rfl, hbw.trans hb2⟩
set_option maxRecDepth 100000 in
set_option maxHeartbeats 1000000 in
theorem rmake_any (ls : List Nat) (hu : ∀ u ∈ ls, u < 65536) (b off cap : Nat) (w : World) (hb : b < w.heap.size) (hc : Cells16 ls b off w) (hs : 2 * ls.length ≤ 140737488355328) :
    Calls Tryd.prog 24 #[.slice (some ⟨b, off, none⟩) ls.length cap] w fun e w' => e = .returned (.string ⟨(bL ls).toArray⟩) ∧ Below w.heap.size w w' := by
  obtain ⟨N, hN⟩ : ∃ N, ls.length = N := ⟨_, rfl⟩
  rw [hN] at hs ⊢
  have hm : (N : Int) ≤ 70368744177664 := by omega
  have HS := Lib.hid hs
  have HN := Lib.hid hN
  clear hs hN
  go_enter Tryd.func24, Tryd.ntmps24
  go_wp2
  go_loopw [3, 4] (fun v i wr => ∃ k : Nat, i = .int .i64 k ∧ k ≤ N ∧ Own w.heap.size (bL (ls.take k)) v wr ∧ Below w.heap.size w wr) (fun _ i _ => N - (intOf i).toNat)
  case atStart => exact ⟨0, rfl, Nat.zero_le _, Own.nil _ _, Below.refl _ _⟩
  case round =>
    obtain ⟨k, rfl, hk, hI, hbw⟩ := hrel
    by_cases hlt : k < N
    · have hlt2 : k < ls.length := by rw [HN.out]; exact hlt
      have hcell := cells16_below hc hb hbw k ls[k] (List.getElem?_eq_getElem hlt2)
      have hu1 := hu _ (List.getElem_mem hlt2)
      obtain ⟨u, hue⟩ : ∃ u, ls[k] = u := ⟨_, rfl⟩
      rw [hue] at hcell hu1
      have hl := take_len ls k
      have hr := fun W v h hb => put_any w.heap.size (bL (ls.take k)) v u hu1 W h (by rw [bL_length]; have := HS.out; omega) hb
      have HG := Lib.hid (show ls.take (k + 1) = ls.take k ++ [u] by rw [List.take_succ_eq_append_getElem hlt2, hue])
      clear hl hu1 hue hc hu
      go_wp2_with fail
      refine (hr _ _ hI hbw.size).mono ?_
      rintro e w2 ⟨v2, rfl, hI2, hb2⟩
      go_wp2
      go_roundw
      case rel => exact ⟨k + 1, by go_num, by omega, by rw [HG.out, bL_append]; exact hI2, hbw.trans hb2⟩
      case measure => simp [intOf]; omega
    · have HZ := Lib.hid (show ls.take k = ls from List.take_of_length_le (by rw [HN.out]; omega))
      have hcv := own_string hI
      clear hc hu
      go_wp2
      go_ret
      rw [HZ.out]
      exact ⟨rfl, hbw⟩
set_option maxRecDepth 100000 in
set_option maxHeartbeats 1000000 in
theorem rmake_none (a : Option Addr) (cap : Nat) (w : World) : Calls Tryd.prog 24 #[.slice a 0 cap] w fun e w' => e = .returned (.string ⟨#[]⟩) ∧ Below w.heap.size w w' := by
  have hcv := fun W => own_string (Own.nil w.heap.size W)
  go_enter Tryd.func24, Tryd.ntmps24
  go_wp2
  go_loopw [3, 4] (fun v i wr => i = .int .i64 0 ∧ v = .slice none 0 0 ∧ Below w.heap.size w wr) (fun _ _ _ => 0)
  case atStart => exact ⟨rfl, rfl, Below.refl _ _⟩
  case round =>
    obtain ⟨rfl, rfl, hbw⟩ := hrel
    go_wp2
    go_ret
    exact ⟨rfl, hbw⟩
theorem row_drewN {w : World} {b : Nat} {t : TypeId} {n : Nat} {f : Nat → Value} (h : w.rowIs b t n f) (m : Nat) : (w.drewN m).rowIs b t n f := h
theorem row_below {w w' : World} {b B : Nat} {t : TypeId} {n : Nat} {f : Nat → Value} (h : w.rowIs b t n f) (hb : b < B) (hbw : Below B w w') : w'.rowIs b t n f := h.of_block (hbw.block b hb)
set_option maxRecDepth 100000 in
set_option maxHeartbeats 1000000 in
theorem units_any (s : ByteArray) (w : World) (hs : s.size ≤ 140737488355328) :
    Calls Tryd.prog 26 #[.string s] w fun e w' => e = .returned (.slice (some ⟨w.heap.size, 0, none⟩) (ln s) (ln s)) ∧ w'.rowIs w.heap.size 29 (ln s) (fun j => .int .u16 (un s j : Nat)) ∧ Below w.heap.size w w' := by
  have hl := ln_le s
  have hs63 : s.size ≤ maxLen := by unfold maxLen; omega
  have hm : ((ln s : Nat) : Int) ≤ 70368744177664 := by omega
  have hmk := run_make_row' (P := Tryd.prog) 28 29 (.int .u16 0) 2 Tryd.underlying28 info29 rfl .i64 .i64 (ln s) (by omega) (by omega) w
  have hmade := World.rowIs_made w (.int .u16 0) (ln s) 29
  have H63 := Lib.hid hs63
  have c1 := fun W => len_any s W H63.out
  clear hs hl hs63
  have hr0 : (w.alloc (.cells (madeCells #[.int .u16 0] (ln s)) 29)).rowIs w.heap.size 29 (ln s) (fun j => .int .u16 ((if j < 0 then un s j else 0 : Nat) : Int)) := hmade.congr (fun j _ => by simp)
  clear hmade
  go_enter Tryd.func26, Tryd.ntmps26
  go_wp2_with (go_at_call 28; refine (c1 _).mono ?_; rintro e w' ⟨rfl, rfl⟩)
  clear hmk
  go_loopw [10] (fun i wr => ∃ k : Nat, i = .int .i64 k ∧ k ≤ ln s ∧ wr.rowIs w.heap.size 29 (ln s) (fun j => .int .u16 ((if j < k then un s j else 0 : Nat) : Int)) ∧ Below w.heap.size w wr) (fun i _ => ln s - (intOf i).toNat)
  case atStart => exact ⟨0, rfl, Nat.zero_le _, hr0, (Below.refl _ _).alloc (Nat.le_refl _) _⟩
  case round =>
    obtain ⟨k, rfl, hk, hI, hbw⟩ := hrel
    by_cases hlt : k < ln s
    · have hcell : wr.cell? ⟨w.heap.size, k, none⟩ = some (.int .u16 0) := by
        have := hI.cell hlt
        simpa using this
      have hfz := hI.frozen k
      have c2 := fun W => at_any s k W hlt H63.out
      have hI2 := hI.set k (.int .u16 (un s k : Nat))
      have hI3 : (wr.setCell ⟨w.heap.size, k, none⟩ (.int .u16 (un s k : Nat))).rowIs w.heap.size 29 (ln s) (fun j => .int .u16 ((if j < k + 1 then un s j else 0 : Nat) : Int)) := by
        refine hI2.congr fun j hj => ?_
        by_cases h1 : j = k
        · subst h1; simp
        · by_cases h2 : j < k
          · rw [if_neg h1, if_pos h2, if_pos (by omega)]
          · rw [if_neg h1, if_neg h2, if_neg (by omega)]
      have HI := Lib.hid hI3
      clear hI hI2 hI3
      go_wp2_with fail
      refine (c2 _).mono ?_
      rintro e w' ⟨rfl, n, rfl⟩
      go_wp2
      go_roundw
      case rel => exact ⟨k + 1, by go_num, by omega, row_drewN HI.out n, below_drewN' (hbw.setCell (Nat.le_refl _) _) n⟩
      case measure => simp [intOf]; omega
    · have HI := Lib.hid (show wr.rowIs w.heap.size 29 (ln s) (fun j => .int .u16 (un s j : Nat)) from hI.congr fun j hj => by rw [if_pos (by omega)])
      clear hI
      go_wp2
      go_ret
      exact ⟨rfl, HI.out, hbw⟩
/-- The slice of units v is the call's own and holds the units l. -/
abbrev Own16 (B : Nat) (l : List Nat) (v : Value) (w : World) : Prop := w.ownsRow B 29 1 v l.length (l.map fun u => Value.int .u16 (u : Nat))
theorem Own16.nil (B : Nat) (w : World) : Own16 B [] (.slice none 0 0) w := World.ownsRow_nil _ _ _ _
set_option maxRecDepth 100000 in
set_option maxHeartbeats 1000000 in
theorem runits_any (s : ByteArray) (w : World) (hs : s.size ≤ 140737488355328) :
    Calls Tryd.prog 27 #[.string s] w fun e w' => ∃ v, e = .returned v ∧ Own16 w.heap.size (us s) v w' ∧ Below w.heap.size w w' := by
  obtain ⟨i0, hi, hz0, hz1, hz2⟩ := info_parts info29
  have hl := ln_le s
  have hs63 : s.size ≤ maxLen := by unfold maxLen; omega
  have hm : ((ln s : Nat) : Int) ≤ 70368744177664 := by omega
  have HS := Lib.hid (show 2 * ln s ≤ 140737488355328 by omega)
  have H63 := Lib.hid hs63
  have c1 := fun W => rlen_any s W H63.out
  clear hs hl hs63
  go_enter Tryd.func27, Tryd.ntmps27
  go_wp2
  go_loopw [3, 4] (fun v i wr => ∃ k : Nat, i = .int .i64 k ∧ k ≤ ln s ∧ Own16 w.heap.size ((us s).take k) v wr ∧ Below w.heap.size w wr) (fun _ i _ => ln s - (intOf i).toNat)
  case atStart => exact ⟨0, rfl, Nat.zero_le _, Own16.nil _ _, Below.refl _ _⟩
  case round =>
    obtain ⟨k, rfl, hk, hI, hbw⟩ := hrel
    by_cases hlt : k < ln s
    · have hlt' : (k : Int) < (ln s : Int) := by omega
      have c2 := fun W => rat_any s k W hlt H63.out
      have hl := take_len (us s) k
      have hl2 : ((us s).take k).length = k := by rw [List.length_take, us_length]; omega
      have HG := Lib.hid (us_take_succ s k hlt)
      have HL := Lib.hid hl2
      clear hl hl2
      go_wp2_with fail
      refine (c1 _).mono ?_
      rintro e w' ⟨rfl, rfl⟩
      go_wp2_with fail
      refine (c2 _).mono ?_
      rintro e w' ⟨rfl, n, rfl⟩
      go_wp2_with (at_builtin; refine wpList_append_own _ rfl _ _ 28 rfl w.heap.size 29 i0 (.int .u16 0) 1 2 Tryd.underlying28 hi hz0 hz1 hz2 rfl (by decide) _ _ _ rfl (World.ownsRow.alloc (w := wr) hI _) ⟨wr.heap.size, 0, none⟩ 1 1 [.int .u16 (un s k : Nat)] rfl rfl ?c1 ?c2 ?c3 ?c4 ?c5 ?_)
      case c1 => exact (cell_one_new _ _ _)
      case c2 => simp [Value.oneCell']
      case c3 => have := HS.out; have := HL.out; unfold maxLen; omega
      case c4 => have := HS.out; have := HL.out; omega
      case c5 => have := hbw.size; simp; omega
      intro v' w1 hown hg _
      go_wp2
      go_roundw
      case rel =>
        refine ⟨k + 1, by go_num, by omega, ?_, ?_⟩
        · rw [HG.out]; simpa [Own16] using hown
        · exact ((below_drewN' hbw n).alloc hbw.size _).grown hg (by have := hbw.size; simp; omega) (fun j hj => (World.ownsRow.lt hI j hj).1)
      case measure => simp [intOf]; omega
    · have hlt' : ¬ ((k : Int) < (ln s : Int)) := by omega
      have HZ := Lib.hid (show (us s).take k = us s by rw [show k = ln s by omega]; exact us_take_all s)
      go_wp2_with (go_at_call 29; refine (c1 _).mono ?_; rintro e w' ⟨rfl, rfl⟩)
      go_ret
      exact ⟨_, rfl, by rw [← HZ.out]; exact hI, hbw⟩
end Go.Proofs.YthnkidncjkhndaaDoor
