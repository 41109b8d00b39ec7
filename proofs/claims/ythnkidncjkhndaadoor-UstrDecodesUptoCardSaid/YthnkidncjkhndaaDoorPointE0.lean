/-
  The reference's point at a lead byte of four, a byte behind it missing.
-/
import Derived.Test.YthnkidncjkhndaaDoorCont
namespace Go.Proofs.YthnkidncjkhndaaDoor
open Go.RowKit
set_option maxRecDepth 100000 in
set_option maxHeartbeats 8000000 in
theorem point_e0 (s : ByteArray) (i : Nat) (w : World) (hs : s.size ≤ 140737488355328) (hi : i < s.size) (l0 : 240 ≤ bt s i) (l1 : bt s i < 245) (h1 : coB s (i + 1) = false) :
    Calls Tryd.prog 63 #[.string s, .int .i64 i] w fun e w' => e = .returned (.tuple #[.int .u32 0, .int .i64 0]) ∧ ∃ n, w' = w.drewN n := by
  have hm : (s.size : Int) ≤ 140737488355328 := by omega
  have H63 := Lib.hid (show s.size ≤ maxLen by unfold maxLen; omega)
  have h0 : (0 : Int) ≤ (i : Int) := by omega
  have h' : (i : Int) < (s.size : Int) := by omega
  have b0 := bt_eq s i hi
  have y0 : ((bt s i : Nat) : Int) < 256 := by have := bt_lt s i; omega
  have t0 : ¬ (((bt s i : Nat) : Int) < 128) := by omega
  have t1 : 240 ≤ ((bt s i : Nat) : Int) := by omega
  have t2 : ((bt s i : Nat) : Int) < 245 := by omega
  have c1 : ∀ W, Calls Tryd.prog 90 #[.string s, .int .i64 ((i : Int) + 1)] W fun e w' => e = .returned (.bool false) ∧ W = w' := fun W => by
    rw [show ((i : Int) + 1) = ((i + 1 : Nat) : Int) by omega]; exact cont_any s (i + 1) W H63.out false h1
  clear hs l0 l1 h1
  go_enter Tryd.func63, Tryd.ntmps63
  go_wp2_with fail
  refine (c1 _).mono ?_
  rintro e w' ⟨rfl, rfl⟩
  go_wp2
  go_ret2
  exact ⟨rfl, 0, rfl⟩
set_option maxRecDepth 100000 in
set_option maxHeartbeats 8000000 in
theorem point_e1 (s : ByteArray) (i : Nat) (w : World) (hs : s.size ≤ 140737488355328) (hi : i < s.size) (l0 : 240 ≤ bt s i) (l1 : bt s i < 245) (h1 : coB s (i + 1) = true) (h2 : coB s (i + 2) = false) :
    Calls Tryd.prog 63 #[.string s, .int .i64 i] w fun e w' => e = .returned (.tuple #[.int .u32 0, .int .i64 0]) ∧ ∃ n, w' = w.drewN n := by
  have hm : (s.size : Int) ≤ 140737488355328 := by omega
  have H63 := Lib.hid (show s.size ≤ maxLen by unfold maxLen; omega)
  have h0 : (0 : Int) ≤ (i : Int) := by omega
  have h' : (i : Int) < (s.size : Int) := by omega
  have b0 := bt_eq s i hi
  have y0 : ((bt s i : Nat) : Int) < 256 := by have := bt_lt s i; omega
  have t0 : ¬ (((bt s i : Nat) : Int) < 128) := by omega
  have t1 : 240 ≤ ((bt s i : Nat) : Int) := by omega
  have t2 : ((bt s i : Nat) : Int) < 245 := by omega
  have c1 : ∀ W, Calls Tryd.prog 90 #[.string s, .int .i64 ((i : Int) + 1)] W fun e w' => e = .returned (.bool true) ∧ W = w' := fun W => by
    rw [show ((i : Int) + 1) = ((i + 1 : Nat) : Int) by omega]; exact cont_any s (i + 1) W H63.out true h1
  have c2 : ∀ W, Calls Tryd.prog 90 #[.string s, .int .i64 ((i : Int) + 2)] W fun e w' => e = .returned (.bool false) ∧ W = w' := fun W => by
    rw [show ((i : Int) + 2) = ((i + 2 : Nat) : Int) by omega]; exact cont_any s (i + 2) W H63.out false h2
  clear hs l0 l1 h1 h2
  go_enter Tryd.func63, Tryd.ntmps63
  go_wp2_with fail
  refine (c1 _).mono ?_
  rintro e w' ⟨rfl, rfl⟩
  go_wp2_with fail
  refine (c2 _).mono ?_
  rintro e w' ⟨rfl, rfl⟩
  go_wp2
  go_ret2
  exact ⟨rfl, 0, rfl⟩
set_option maxRecDepth 100000 in
set_option maxHeartbeats 8000000 in
theorem point_e2 (s : ByteArray) (i : Nat) (w : World) (hs : s.size ≤ 140737488355328) (hi : i < s.size) (l0 : 240 ≤ bt s i) (l1 : bt s i < 245) (h1 : coB s (i + 1) = true) (h2 : coB s (i + 2) = true) (h3 : coB s (i + 3) = false) :
    Calls Tryd.prog 63 #[.string s, .int .i64 i] w fun e w' => e = .returned (.tuple #[.int .u32 0, .int .i64 0]) ∧ ∃ n, w' = w.drewN n := by
  have hm : (s.size : Int) ≤ 140737488355328 := by omega
  have H63 := Lib.hid (show s.size ≤ maxLen by unfold maxLen; omega)
  have h0 : (0 : Int) ≤ (i : Int) := by omega
  have h' : (i : Int) < (s.size : Int) := by omega
  have b0 := bt_eq s i hi
  have y0 : ((bt s i : Nat) : Int) < 256 := by have := bt_lt s i; omega
  have t0 : ¬ (((bt s i : Nat) : Int) < 128) := by omega
  have t1 : 240 ≤ ((bt s i : Nat) : Int) := by omega
  have t2 : ((bt s i : Nat) : Int) < 245 := by omega
  have c1 : ∀ W, Calls Tryd.prog 90 #[.string s, .int .i64 ((i : Int) + 1)] W fun e w' => e = .returned (.bool true) ∧ W = w' := fun W => by
    rw [show ((i : Int) + 1) = ((i + 1 : Nat) : Int) by omega]; exact cont_any s (i + 1) W H63.out true h1
  have c2 : ∀ W, Calls Tryd.prog 90 #[.string s, .int .i64 ((i : Int) + 2)] W fun e w' => e = .returned (.bool true) ∧ W = w' := fun W => by
    rw [show ((i : Int) + 2) = ((i + 2 : Nat) : Int) by omega]; exact cont_any s (i + 2) W H63.out true h2
  have c3 : ∀ W, Calls Tryd.prog 90 #[.string s, .int .i64 ((i : Int) + 3)] W fun e w' => e = .returned (.bool false) ∧ W = w' := fun W => by
    rw [show ((i : Int) + 3) = ((i + 3 : Nat) : Int) by omega]; exact cont_any s (i + 3) W H63.out false h3
  clear hs l0 l1 h1 h2 h3
  go_enter Tryd.func63, Tryd.ntmps63
  go_wp2_with fail
  refine (c1 _).mono ?_
  rintro e w' ⟨rfl, rfl⟩
  go_wp2_with fail
  refine (c2 _).mono ?_
  rintro e w' ⟨rfl, rfl⟩
  go_wp2_with fail
  refine (c3 _).mono ?_
  rintro e w' ⟨rfl, rfl⟩
  go_wp2
  go_ret2
  exact ⟨rfl, 0, rfl⟩
end Go.Proofs.YthnkidncjkhndaaDoor
