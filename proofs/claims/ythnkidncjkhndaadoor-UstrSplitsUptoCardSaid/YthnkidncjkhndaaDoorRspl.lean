/-
  Contracts of single, of Split of the reference, and of the law's comparison of texts (texts of at most 2^20 bytes).
-/
import Derived.Test.YthnkidncjkhndaaDoorJoin
namespace Go.Proofs.YthnkidncjkhndaaDoor
open Go.RowKit
/-- What Split tells: at no separator each unit alone. -/
def spOK (s t : ByteArray) (ps : List (List Nat)) : Prop := (ln t = 0 ∧ ps = (us s).map fun u => [u]) ∨ (0 < ln t ∧ Spl (us s) (us t) 0 ps)
theorem spOK_unique {s t : ByteArray} {ps qs : List (List Nat)} (h : spOK s t ps) (g : spOK s t qs) : ps = qs := by
  rcases h with ⟨h1, h2⟩ | ⟨h1, h2⟩ <;> rcases g with ⟨g1, g2⟩ | ⟨g1, g2⟩
  · rw [h2, g2]
  · omega
  · omega
  · exact Spl_unique h2 g2
def SpPost (s t : ByteArray) (w : World) (e : Ending) (w' : World) : Prop := ∃ A n c ps, e = .returned (.slice A n c) ∧ (spOK s t ps ∧ ps.length = n ∧ RS w' w'.heap.size A (ps.map tx)) ∧ Below w.heap.size w w'
theorem sp_of {s t : ByteArray} {w w' : World} {v : Value} {ps : List (List Nat)} (h : spOK s t ps) (ho : OwnS w.heap.size (ps.map tx) v w') (hb : Below w.heap.size w w') : SpPost s t w (.returned v) w' := by
  obtain ⟨A, c, rfl, hr⟩ := ho.reads
  exact ⟨A, _, c, ps, rfl, ⟨h, by rw [List.length_map], hr⟩, hb⟩
/-- The first k units, each alone. -/
def oneT (s : ByteArray) (k : Nat) : List (List Nat) := ((us s).take k).map fun u => [u]
theorem oneT_zero (s : ByteArray) : oneT s 0 = [] := rfl
theorem oneT_len (s : ByteArray) (k : Nat) : (oneT s k).length ≤ k := by unfold oneT; rw [List.length_map]; exact take_len _ _
theorem oneT_succ (s : ByteArray) (k : Nat) (h : k < ln s) : oneT s (k + 1) = oneT s k ++ [[un s k]] := by
  unfold oneT
  rw [us_take_succ s k h, List.map_append]; rfl
theorem oneT_all (s : ByteArray) : oneT s (ln s) = (us s).map fun u => [u] := by unfold oneT; rw [us_take_all]
theorem rslEnd_any (s : ByteArray) (f : Nat) (w : World) (hs : s.size ≤ maxLen) (h : f ≤ ln s) :
    Calls Tryd.prog 31 #[.string s, .int .i64 f, .int .i64 (ln s : Nat)] w fun e w' => e = .returned (.string (tx ((us s).drop f))) ∧ w = w' := by
  refine (rslice_any s f (ln s : Nat) w hs).mono ?_
  rintro e w' ⟨rfl, rfl⟩
  exact ⟨by rw [slS_end s f h], rfl⟩
theorem rslMid_any (s : ByteArray) (f j : Nat) (w : World) (hs : s.size ≤ maxLen) (h : f ≤ j) (h2 : j ≤ ln s) :
    Calls Tryd.prog 31 #[.string s, .int .i64 f, .int .i64 j] w fun e w' => e = .returned (.string (tx (((us s).drop f).take (j - f)))) ∧ w = w' := by
  refine (rslice_any s f j w hs).mono ?_
  rintro e w' ⟨rfl, rfl⟩
  exact ⟨by rw [slS_tx s f j h h2], rfl⟩
theorem slOne_any (s : ByteArray) (i : Nat) (w : World) (hs : s.size ≤ maxLen) (h : i < ln s) :
    Calls Tryd.prog 30 #[.string s, .int .i64 i, .int .i64 ((i : Int) + 1)] w fun e w' => e = .returned (.string (tx [un s i])) ∧ w = w' := by
  refine (slice_any s i ((i : Int) + 1) w hs).mono ?_
  rintro e w' ⟨rfl, rfl⟩
  exact ⟨by rw [slS_one s i h], rfl⟩
theorem rslOne_any (s : ByteArray) (i : Nat) (w : World) (hs : s.size ≤ maxLen) (h : i < ln s) :
    Calls Tryd.prog 31 #[.string s, .int .i64 i, .int .i64 ((i : Int) + 1)] w fun e w' => e = .returned (.string (tx [un s i])) ∧ w = w' := by
  refine (rslice_any s i ((i : Int) + 1) w hs).mono ?_
  rintro e w' ⟨rfl, rfl⟩
  exact ⟨by rw [slS_one s i h], rfl⟩
set_option maxRecDepth 100000 in
set_option maxHeartbeats 2000000 in
theorem single_any (s : ByteArray) (w : World) (hs : s.size ≤ 1048576) :
    Calls Tryd.prog 85 #[.string s] w fun e w' => e = .returned (.slice (some ⟨w.heap.size, 0, none⟩) (ln s) (ln s)) ∧ w'.rowIs w.heap.size 9 (ln s) (fun j => .string (tx [un s j])) ∧ Below w.heap.size w w' := by
  have hl := ln_le s
  have hm : ((ln s : Nat) : Int) ≤ 524288 := by omega
  have hmk := run_make_row' (P := Tryd.prog) 45 9 (.string ⟨#[]⟩) 16 Tryd.underlying45 info9 rfl .i64 .i64 (ln s) (by omega) (by omega) w
  have hmade := World.rowIs_made w (.string ⟨#[]⟩) (ln s) 9
  have H63 := Lib.hid (show s.size ≤ maxLen by unfold maxLen; omega)
  have c1 := fun W => len_any s W H63.out
  clear hs hl
  have hr0 : (w.alloc (.cells (madeCells #[.string ⟨#[]⟩] (ln s)) 9)).rowIs w.heap.size 9 (ln s) (fun j => .string (if j < 0 then tx [un s j] else ⟨#[]⟩)) := hmade.congr (fun j _ => by simp)
  have HR0 := Lib.hid hr0
  clear hmade hr0
  go_enter Tryd.func85, Tryd.ntmps85
  go_wp2_with (go_at_call 28; refine (c1 _).mono ?_; rintro e w' ⟨rfl, rfl⟩)
  clear hmk
  go_loopw [10] (fun i wr => ∃ k : Nat, i = .int .i64 k ∧ k ≤ ln s ∧ Hid (wr.rowIs w.heap.size 9 (ln s) (fun j => .string (if j < k then tx [un s j] else ⟨#[]⟩))) ∧ Below w.heap.size w wr) (fun i _ => ln s - (intOf i).toNat)
  case atStart => exact ⟨0, rfl, Nat.zero_le _, HR0, (Below.refl _ _).alloc (Nat.le_refl _) _⟩
  case round =>
    obtain ⟨k, rfl, hk, HI, hbw⟩ := hrel
    by_cases hlt : k < ln s
    · have hcell : wr.cell? ⟨w.heap.size, k, none⟩ = some (.string ⟨#[]⟩) := by
        have := HI.out.cell hlt
        simpa using this
      have hfz := HI.out.frozen k
      have c2 := fun W => slOne_any s k W H63.out hlt
      have hI2 := HI.out.set k (.string (tx [un s k]))
      have HI3 := Lib.hid (show (wr.setCell ⟨w.heap.size, k, none⟩ (.string (tx [un s k]))).rowIs w.heap.size 9 (ln s) (fun j => .string (if j < k + 1 then tx [un s j] else ⟨#[]⟩)) from by
        refine hI2.congr fun j hj => ?_
        by_cases h1 : j = k
        · subst h1; simp
        · by_cases h2 : j < k
          · rw [if_neg h1, if_pos h2, if_pos (by omega)]
          · rw [if_neg h1, if_neg h2, if_neg (by omega)])
      have hk1 : (k : Int) < (ln s : Nat) := by omega
      clear hI2
      go_wp2_with (go_at_call 30; refine (c2 _).mono ?_; rintro e w' ⟨rfl, rfl⟩)
      go_roundw
      case rel => exact ⟨k + 1, by go_num, by omega, HI3, hbw.setCell (Nat.le_refl _) _⟩
      case measure => simp [intOf]; omega
    · have HI2 := Lib.hid (show wr.rowIs w.heap.size 9 (ln s) (fun j => .string (tx [un s j])) from HI.out.congr fun j hj => by rw [if_pos (by omega)])
      go_wp2
      go_ret
      exact ⟨rfl, HI2.out, hbw⟩
end Go.Proofs.YthnkidncjkhndaaDoor
