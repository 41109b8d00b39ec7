import Derived.Test.YthnkidncjkhndaaDoorProg
import Derived.WalkKit
import Derived.WalkSpells
import Derived.WalkLawsBesides
import Derived.Deep.QuietTactic
import Derived.BigQuiet
namespace Go.Proofs.YthnkidncjkhndaaDoor
open Go.RowKit
def spB (u : Int) : Bool := u == 9 || u == 11 || u == 12 || u == 32 || u == 160 || u == 5760 || u == 6158 || u == 8239 || u == 8287 || u == 12288 || u == 65279 || (decide (8192 ≤ u) && decide (u ≤ 8202))
def enB (u : Int) : Bool := u == 10 || u == 13 || u == 8232 || u == 8233
def blB (u : Int) : Bool := spB u || enB u
def stB (u : Int) : Bool := (decide (97 ≤ u) && decide (u ≤ 122)) || (decide (65 ≤ u) && decide (u ≤ 90)) || u == 36 || u == 95 || (decide (128 ≤ u) && !(blB u))
def ptB (u : Int) : Bool := stB u || (decide (48 ≤ u) && decide (u ≤ 57))
set_option maxHeartbeats 1000000 in
theorem space_any (u : Int) (w : World) : Calls Tryd.prog 44 #[.int .u16 u] w fun e w' => e = .returned (.bool (spB u)) ∧ w = w' := by
  go_enter Tryd.func44, Tryd.ntmps44
  go_wp2
  all_goals go_ret
  all_goals exact ⟨by simp [spB, *] <;> omega, rfl⟩
set_option maxHeartbeats 1000000 in
theorem rspace_any (u : Int) (w : World) : Calls Tryd.prog 45 #[.int .u16 u] w fun e w' => e = .returned (.bool (spB u)) ∧ w = w' := by
  go_enter Tryd.func45, Tryd.ntmps45
  go_wp2
  all_goals go_ret
  all_goals exact ⟨by simp [spB, *] <;> omega, rfl⟩
set_option maxHeartbeats 1000000 in
theorem ends_any (u : Int) (w : World) : Calls Tryd.prog 46 #[.int .u16 u] w fun e w' => e = .returned (.bool (enB u)) ∧ w = w' := by
  go_enter Tryd.func46, Tryd.ntmps46
  go_wp2
  all_goals go_ret
  all_goals exact ⟨by simp [enB, *], rfl⟩
set_option maxHeartbeats 1000000 in
theorem rends_any (u : Int) (w : World) : Calls Tryd.prog 47 #[.int .u16 u] w fun e w' => e = .returned (.bool (enB u)) ∧ w = w' := by
  go_enter Tryd.func47, Tryd.ntmps47
  go_wp2
  all_goals go_ret
  all_goals exact ⟨by simp [enB, *], rfl⟩
set_option maxHeartbeats 1000000 in
theorem blank_any (u : Int) (w : World) : Calls Tryd.prog 83 #[.int .u16 u] w fun e w' => e = .returned (.bool (blB u)) ∧ w = w' := by
  go_enter Tryd.func83, Tryd.ntmps83
  go_wp2_with (first | (go_at_call 44; refine (space_any _ _).mono ?_; rintro e w' ⟨rfl, rfl⟩) | (go_at_call 46; refine (ends_any _ _).mono ?_; rintro e w' ⟨rfl, rfl⟩))
  all_goals go_ret
  all_goals exact ⟨by simp [blB, *], rfl⟩
set_option maxHeartbeats 1000000 in
theorem start_any (u : Int) (w : World) : Calls Tryd.prog 48 #[.int .u16 u] w fun e w' => e = .returned (.bool (stB u)) ∧ w = w' := by
  go_enter Tryd.func48, Tryd.ntmps48
  go_wp2_with (first | (go_at_call 83; refine (blank_any _ _).mono ?_; rintro e w' ⟨rfl, rfl⟩))
  all_goals go_ret
  all_goals exact ⟨by simp [stB, *] <;> omega, rfl⟩
theorem ret_bool {a b : Bool} (h : a = b) : Ending.returned (.bool a) = .returned (.bool b) := by rw [h]
theorem st_low (u : Int) (h : u < 128) : stB u = ((decide (97 ≤ u) && decide (u ≤ 122)) || (decide (65 ≤ u) && decide (u ≤ 90)) || u == 36 || u == 95) := by
  have h128 : decide (128 ≤ u) = false := by simp; omega
  simp [stB, h128]
set_option maxHeartbeats 1000000 in
theorem rstart_any (u : Int) (w : World) : Calls Tryd.prog 49 #[.int .u16 u] w fun e w' => e = .returned (.bool (stB u)) ∧ w = w' := by
  go_enter Tryd.func49, Tryd.ntmps49
  go_wp2_with (first | (go_at_call 45; refine (rspace_any _ _).mono ?_; rintro e w' ⟨rfl, rfl⟩) | (go_at_call 47; refine (rends_any _ _).mono ?_; rintro e w' ⟨rfl, rfl⟩))
  all_goals go_ret
  all_goals refine ⟨ret_bool ?_, rfl⟩
  all_goals first | (rw [st_low u (by omega), Bool.eq_iff_iff]; simp; omega) | (simp [stB, blB, *] <;> omega)
set_option maxHeartbeats 1000000 in
theorem part_any (u : Int) (w : World) : Calls Tryd.prog 50 #[.int .u16 u] w fun e w' => e = .returned (.bool (ptB u)) ∧ w = w' := by
  go_enter Tryd.func50, Tryd.ntmps50
  go_wp2_with (first | (go_at_call 48; refine (start_any _ _).mono ?_; rintro e w' ⟨rfl, rfl⟩))
  all_goals go_ret
  all_goals exact ⟨by simp [ptB, *] <;> omega, rfl⟩
set_option maxHeartbeats 1000000 in
theorem rpart_any (u : Int) (w : World) : Calls Tryd.prog 51 #[.int .u16 u] w fun e w' => e = .returned (.bool (ptB u)) ∧ w = w' := by
  go_enter Tryd.func51, Tryd.ntmps51
  go_wp2_with (first | (go_at_call 49; refine (rstart_any _ _).mono ?_; rintro e w' ⟨rfl, rfl⟩))
  all_goals go_ret
  all_goals exact ⟨by simp [ptB, *] <;> omega, rfl⟩
end Go.Proofs.YthnkidncjkhndaaDoor
