/-
  The reference's point at a lead byte below E0, and at one that is none.
-/
import Derived.Test.YthnkidncjkhndaaDoorCont
namespace Go.Proofs.YthnkidncjkhndaaDoor
open Go.RowKit
set_option maxRecDepth 100000 in
set_option maxHeartbeats 8000000 in
theorem point_a (s : ByteArray) (i : Nat) (w : World) (hs : s.size ≤ 140737488355328) (hi : i < s.size) (h : bt s i < 128) :
    Calls Tryd.prog 63 #[.string s, .int .i64 i] w fun e w' => e = .returned (.tuple #[.int .u32 (bt s i : Nat), .int .i64 1]) ∧ ∃ n, w' = w.drewN n := by
  have hm : (s.size : Int) ≤ 140737488355328 := by omega
  have H63 := Lib.hid (show s.size ≤ maxLen by unfold maxLen; omega)
  have h0 : (0 : Int) ≤ (i : Int) := by omega
  have h' : (i : Int) < (s.size : Int) := by omega
  have b0 := bt_eq s i hi
  have y0 : ((bt s i : Nat) : Int) < 256 := by have := bt_lt s i; omega
  have t0 : ((bt s i : Nat) : Int) < 128 := by omega
  clear hs h
  go_enter Tryd.func63, Tryd.ntmps63
  go_wp2
  go_ret2
  exact ⟨rfl, 0, rfl⟩
set_option maxRecDepth 100000 in
set_option maxHeartbeats 8000000 in
theorem point_n1 (s : ByteArray) (i : Nat) (w : World) (hs : s.size ≤ 140737488355328) (hi : i < s.size) (h : 128 ≤ bt s i) (h2 : bt s i < 194) :
    Calls Tryd.prog 63 #[.string s, .int .i64 i] w fun e w' => e = .returned (.tuple #[.int .u32 0, .int .i64 0]) ∧ ∃ n, w' = w.drewN n := by
  have hm : (s.size : Int) ≤ 140737488355328 := by omega
  have H63 := Lib.hid (show s.size ≤ maxLen by unfold maxLen; omega)
  have h0 : (0 : Int) ≤ (i : Int) := by omega
  have h' : (i : Int) < (s.size : Int) := by omega
  have b0 := bt_eq s i hi
  have y0 : ((bt s i : Nat) : Int) < 256 := by have := bt_lt s i; omega
  have t0 : ¬ (((bt s i : Nat) : Int) < 128) := by omega
  have t1 : ((bt s i : Nat) : Int) < 194 := by omega
  clear hs h h2
  go_enter Tryd.func63, Tryd.ntmps63
  go_wp2_with fail
  go_ret2
  exact ⟨rfl, 0, rfl⟩
set_option maxRecDepth 100000 in
set_option maxHeartbeats 8000000 in
theorem point_n2 (s : ByteArray) (i : Nat) (w : World) (hs : s.size ≤ 140737488355328) (hi : i < s.size) (_h : 128 ≤ bt s i) (h2 : 245 ≤ bt s i) :
    Calls Tryd.prog 63 #[.string s, .int .i64 i] w fun e w' => e = .returned (.tuple #[.int .u32 0, .int .i64 0]) ∧ ∃ n, w' = w.drewN n := by
  have hm : (s.size : Int) ≤ 140737488355328 := by omega
  have H63 := Lib.hid (show s.size ≤ maxLen by unfold maxLen; omega)
  have h0 : (0 : Int) ≤ (i : Int) := by omega
  have h' : (i : Int) < (s.size : Int) := by omega
  have b0 := bt_eq s i hi
  have y0 : ((bt s i : Nat) : Int) < 256 := by have := bt_lt s i; omega
  have t0 : ¬ (((bt s i : Nat) : Int) < 128) := by omega
  have t1 : 245 ≤ ((bt s i : Nat) : Int) := by omega
  clear hs h2
  go_enter Tryd.func63, Tryd.ntmps63
  go_wp2_with fail
  go_ret2
  exact ⟨rfl, 0, rfl⟩
set_option maxRecDepth 100000 in
set_option maxHeartbeats 8000000 in
theorem point_c0 (s : ByteArray) (i : Nat) (w : World) (hs : s.size ≤ 140737488355328) (hi : i < s.size) (l0 : 194 ≤ bt s i) (l1 : bt s i < 224) (h1 : coB s (i + 1) = false) :
    Calls Tryd.prog 63 #[.string s, .int .i64 i] w fun e w' => e = .returned (.tuple #[.int .u32 0, .int .i64 0]) ∧ ∃ n, w' = w.drewN n := by
  have hm : (s.size : Int) ≤ 140737488355328 := by omega
  have H63 := Lib.hid (show s.size ≤ maxLen by unfold maxLen; omega)
  have h0 : (0 : Int) ≤ (i : Int) := by omega
  have h' : (i : Int) < (s.size : Int) := by omega
  have b0 := bt_eq s i hi
  have y0 : ((bt s i : Nat) : Int) < 256 := by have := bt_lt s i; omega
  have t0 : ¬ (((bt s i : Nat) : Int) < 128) := by omega
  have t1 : 194 ≤ ((bt s i : Nat) : Int) := by omega
  have t2 : ((bt s i : Nat) : Int) < 224 := by omega
  have c1 : ∀ W, Calls Tryd.prog 90 #[.string s, .int .i64 ((i : Int) + 1)] W fun e w' => e = .returned (.bool false) ∧ W = w' := fun W => by
    rw [show ((i : Int) + 1) = ((i + 1 : Nat) : Int) by omega]; exact cont_any s (i + 1) W H63.out false h1
  clear hs l0 l1 h1
  go_enter Tryd.func63, Tryd.ntmps63
  go_wp2_with fail
  refine (c1 _).mono ?_
  rintro e w' ⟨rfl, rfl⟩
  go_wp2
  go_ret2
  exact ⟨rfl, 0, rfl⟩
set_option maxRecDepth 100000 in
set_option maxHeartbeats 8000000 in
theorem point_c1 (s : ByteArray) (i : Nat) (w : World) (hs : s.size ≤ 140737488355328) (hi : i < s.size) (l0 : 194 ≤ bt s i) (l1 : bt s i < 224) (h1 : coB s (i + 1) = true) :
    Calls Tryd.prog 63 #[.string s, .int .i64 i] w fun e w' => e = .returned (.tuple #[.int .u32 ((bt s i % 32 * 64 + bt s (i + 1) % 64 : Nat) : Int), .int .i64 2]) ∧ ∃ n, w' = w.drewN n := by
  have hm : (s.size : Int) ≤ 140737488355328 := by omega
  have H63 := Lib.hid (show s.size ≤ maxLen by unfold maxLen; omega)
  have h0 : (0 : Int) ≤ (i : Int) := by omega
  have h' : (i : Int) < (s.size : Int) := by omega
  have b0 := bt_eq s i hi
  have y0 : ((bt s i : Nat) : Int) < 256 := by have := bt_lt s i; omega
  have t0 : ¬ (((bt s i : Nat) : Int) < 128) := by omega
  have t1 : 194 ≤ ((bt s i : Nat) : Int) := by omega
  have t2 : ((bt s i : Nat) : Int) < 224 := by omega
  have s1 : i + 1 < s.size := by simp [coB] at h1; omega
  have s1' : (i : Int) + 1 < (s.size : Int) := by omega
  have n1 : ((i : Int) + 1).toNat = i + 1 := by omega
  have z1 : (0 : Int) ≤ (i : Int) + 1 := by omega
  have w1 : IntKind.i64.wrap ((i : Int) + 1) = (i : Int) + 1 := IntWalk.i64_in _ (by omega)
  have b1 := bt_eq s (i + 1) s1
  have u1 := bt_lt s (i + 1)
  have y1 : ((bt s (i + 1) : Nat) : Int) < 256 := by omega
  have a1 := and_u8_63n (bt s (i + 1)) u1
  have v1 : IntKind.u32.wrap (((bt s (i + 1) : Nat) : Int) % 64) = ((bt s (i + 1) : Nat) : Int) % 64 := IntWalk.u32_in _ (by omega)
  have f0 : bits BinOp.and IntKind.u32 ((bt s i : Nat) : Int) 31 = ((bt s i : Nat) : Int) % 32 := and_u32_m (bt s i) 5 (by omega) (by omega)
  have f1 : bits BinOp.or IntKind.u32 (((bt s i : Nat) : Int) % 32 * 64) (((bt s (i + 1) : Nat) : Int) % 64) = ((bt s i % 32 * 64 + bt s (i + 1) % 64 : Nat) : Int) := by
    have := or_u32_m (bt s i % 32) 6 (bt s (i + 1) % 64) (by omega) (by omega)
    rw [show 2 ^ 6 * (bt s i % 32) = bt s i % 32 * 64 by omega] at this
    exact this
  have c1 : ∀ W, Calls Tryd.prog 90 #[.string s, .int .i64 ((i : Int) + 1)] W fun e w' => e = .returned (.bool true) ∧ W = w' := fun W => by
    rw [show ((i : Int) + 1) = ((i + 1 : Nat) : Int) by omega]; exact cont_any s (i + 1) W H63.out true h1
  clear hs l0 l1 h1 u1
  go_enter Tryd.func63, Tryd.ntmps63
  go_wp2_with fail
  refine (c1 _).mono ?_
  rintro e w' ⟨rfl, rfl⟩
  go_wp2
  go_ret2
  exact ⟨rfl, 0, rfl⟩
end Go.Proofs.YthnkidncjkhndaaDoor
