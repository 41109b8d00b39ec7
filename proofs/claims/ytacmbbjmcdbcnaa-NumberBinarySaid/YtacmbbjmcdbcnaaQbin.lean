/-
  Binary of the reference at whole numbers' operators and at what is no operator.
-/
import Derived.Test.YtacmbbjmcdbcnaaSums
namespace Go.Proofs.Ytacmbbjmcdbcnaa
open Go.RowKit
set_option maxRecDepth 100000 in
set_option maxHeartbeats 1000000 in
theorem qbin_and (x y : Nat) (w : World) (hx : x < 18446744073709551616) (hy : y < 18446744073709551616) : Calls Try.prog 27 #[.string ⟨#[38]⟩, .float .f64 x, .float .f64 y] w fun e w' => e = .returned (.tuple #[.float .f64 (floatOfInt .f64 (bits BinOp.and IntKind.i32 (i32V x) (i32V y))), .int .i64 0]) ∧ Below w.heap.size w w' := by
  have C1 := Lib.hid (fun W => qi32_any x W hx)
  have C2 := Lib.hid (fun W => qi32_any y W hy)
  obtain ⟨i, hi⟩ : ∃ i, i32V x = i := ⟨_, rfl⟩
  obtain ⟨j, hj⟩ : ∃ j, i32V y = j := ⟨_, rfl⟩
  obtain ⟨c, hc⟩ : ∃ c, cn (floatOfInt .f64 (bits BinOp.and IntKind.i32 i j)) = c := ⟨_, rfl⟩
  rw [hi] at C1 ⊢
  rw [hj] at C2 ⊢
  clear hx hy hi hj hc c
  go_enter Try.func27, Try.ntmps27
  go_wp2_with fail
  refine (C1.out _).mono ?_
  rintro e w1 ⟨rfl, b1⟩
  go_wp2_with fail
  refine (C2.out _).mono ?_
  rintro e w2 ⟨rfl, b2⟩
  have B2 := below_le b1 b2
  clear b1 b2
  go_wp2
  go_ret2
  exact ⟨rfl, B2⟩
set_option maxRecDepth 100000 in
set_option maxHeartbeats 1000000 in
theorem qbin_or (x y : Nat) (w : World) (hx : x < 18446744073709551616) (hy : y < 18446744073709551616) : Calls Try.prog 27 #[.string ⟨#[124]⟩, .float .f64 x, .float .f64 y] w fun e w' => e = .returned (.tuple #[.float .f64 (floatOfInt .f64 (bits BinOp.or IntKind.i32 (i32V x) (i32V y))), .int .i64 0]) ∧ Below w.heap.size w w' := by
  have C1 := Lib.hid (fun W => qi32_any x W hx)
  have C2 := Lib.hid (fun W => qi32_any y W hy)
  obtain ⟨i, hi⟩ : ∃ i, i32V x = i := ⟨_, rfl⟩
  obtain ⟨j, hj⟩ : ∃ j, i32V y = j := ⟨_, rfl⟩
  obtain ⟨c, hc⟩ : ∃ c, cn (floatOfInt .f64 (bits BinOp.or IntKind.i32 i j)) = c := ⟨_, rfl⟩
  rw [hi] at C1 ⊢
  rw [hj] at C2 ⊢
  clear hx hy hi hj hc c
  go_enter Try.func27, Try.ntmps27
  go_wp2_with fail
  refine (C1.out _).mono ?_
  rintro e w1 ⟨rfl, b1⟩
  go_wp2_with fail
  refine (C2.out _).mono ?_
  rintro e w2 ⟨rfl, b2⟩
  have B2 := below_le b1 b2
  clear b1 b2
  go_wp2
  go_ret2
  exact ⟨rfl, B2⟩
set_option maxRecDepth 100000 in
set_option maxHeartbeats 1000000 in
theorem qbin_xor (x y : Nat) (w : World) (hx : x < 18446744073709551616) (hy : y < 18446744073709551616) : Calls Try.prog 27 #[.string ⟨#[94]⟩, .float .f64 x, .float .f64 y] w fun e w' => e = .returned (.tuple #[.float .f64 (floatOfInt .f64 (bits BinOp.xor IntKind.i32 (i32V x) (i32V y))), .int .i64 0]) ∧ Below w.heap.size w w' := by
  have C1 := Lib.hid (fun W => qi32_any x W hx)
  have C2 := Lib.hid (fun W => qi32_any y W hy)
  obtain ⟨i, hi⟩ : ∃ i, i32V x = i := ⟨_, rfl⟩
  obtain ⟨j, hj⟩ : ∃ j, i32V y = j := ⟨_, rfl⟩
  obtain ⟨c, hc⟩ : ∃ c, cn (floatOfInt .f64 (bits BinOp.xor IntKind.i32 i j)) = c := ⟨_, rfl⟩
  rw [hi] at C1 ⊢
  rw [hj] at C2 ⊢
  clear hx hy hi hj hc c
  go_enter Try.func27, Try.ntmps27
  go_wp2_with fail
  refine (C1.out _).mono ?_
  rintro e w1 ⟨rfl, b1⟩
  go_wp2_with fail
  refine (C2.out _).mono ?_
  rintro e w2 ⟨rfl, b2⟩
  have B2 := below_le b1 b2
  clear b1 b2
  go_wp2
  go_ret2
  exact ⟨rfl, B2⟩
set_option maxRecDepth 100000 in
set_option maxHeartbeats 1000000 in
theorem qbin_left (x y : Nat) (w : World) (hx : x < 18446744073709551616) (hy : y < 18446744073709551616) : Calls Try.prog 27 #[.string ⟨#[60, 60]⟩, .float .f64 x, .float .f64 y] w fun e w' => e = .returned (.tuple #[.float .f64 (floatOfInt .f64 (IntKind.i32.wrap (i32V x * 2 ^ min (u32V y % 32) 32))), .int .i64 0]) ∧ Below w.heap.size w w' := by
  have C1 := Lib.hid (fun W => qi32_any x W hx)
  have C2 := Lib.hid (fun W => qu32_any y W hy)
  have hu := u32V_lt y
  obtain ⟨i, hi⟩ : ∃ i, i32V x = i := ⟨_, rfl⟩
  obtain ⟨u, hu2⟩ : ∃ u, u32V y = u := ⟨_, rfl⟩
  rw [hu2] at hu C2 ⊢
  rw [hi] at C1 ⊢
  have k1 : (u : Int) % 32 = ((u % 32 : Nat) : Int) := by omega
  have k1' : Int.tmod (u : Int) 32 = ((u % 32 : Nat) : Int) := by rw [Int.tmod_eq_emod_of_nonneg (by omega)]; exact k1
  have k2 : IntKind.u32.wrap ((u % 32 : Nat) : Int) = ((u % 32 : Nat) : Int) := by rw [IntKind.wrap_u32]; omega
  rw [show min (u % 32) 32 = u % 32 by omega]
  rw [show IntKind.i32.wrap (i * 2 ^ (u % 32)) = wrap32 (i * 2 ^ (u % 32)) by simp [wrap32, IntKind.wrap_i32]]
  obtain ⟨s, hs⟩ : ∃ s, u % 32 = s := ⟨_, rfl⟩
  rw [hs] at k1 k1' k2 ⊢
  have t1 : (0 : Int) ≤ (s : Int) := by omega
  clear hx hy hi hu2 hs hu
  go_enter Try.func27, Try.ntmps27
  go_wp2_with fail
  refine (C1.out _).mono ?_
  rintro e w1 ⟨rfl, b1⟩
  go_wp2_with fail
  refine (C2.out _).mono ?_
  rintro e w2 ⟨rfl, b2⟩
  have B2 := below_le b1 b2
  clear b1 b2
  go_wp2
  go_ret2
  exact ⟨rfl, B2⟩
set_option maxRecDepth 100000 in
set_option maxHeartbeats 1000000 in
theorem qbin_right (x y : Nat) (w : World) (hx : x < 18446744073709551616) (hy : y < 18446744073709551616) : Calls Try.prog 27 #[.string ⟨#[62, 62]⟩, .float .f64 x, .float .f64 y] w fun e w' => e = .returned (.tuple #[.float .f64 (floatOfInt .f64 (i32V x / 2 ^ min (u32V y % 32) 32)), .int .i64 0]) ∧ Below w.heap.size w w' := by
  have C1 := Lib.hid (fun W => qi32_any x W hx)
  have C2 := Lib.hid (fun W => qu32_any y W hy)
  have hu := u32V_lt y
  obtain ⟨i, hi⟩ : ∃ i, i32V x = i := ⟨_, rfl⟩
  obtain ⟨u, hu2⟩ : ∃ u, u32V y = u := ⟨_, rfl⟩
  rw [hu2] at hu C2 ⊢
  rw [hi] at C1 ⊢
  have k1 : (u : Int) % 32 = ((u % 32 : Nat) : Int) := by omega
  have k1' : Int.tmod (u : Int) 32 = ((u % 32 : Nat) : Int) := by rw [Int.tmod_eq_emod_of_nonneg (by omega)]; exact k1
  have k2 : IntKind.u32.wrap ((u % 32 : Nat) : Int) = ((u % 32 : Nat) : Int) := by rw [IntKind.wrap_u32]; omega
  rw [show min (u % 32) 32 = u % 32 by omega]
  obtain ⟨s, hs⟩ : ∃ s, u % 32 = s := ⟨_, rfl⟩
  rw [hs] at k1 k1' k2 ⊢
  have t1 : (0 : Int) ≤ (s : Int) := by omega
  clear hx hy hi hu2 hs hu
  go_enter Try.func27, Try.ntmps27
  go_wp2_with fail
  refine (C1.out _).mono ?_
  rintro e w1 ⟨rfl, b1⟩
  go_wp2_with fail
  refine (C2.out _).mono ?_
  rintro e w2 ⟨rfl, b2⟩
  have B2 := below_le b1 b2
  clear b1 b2
  go_wp2
  go_ret2
  exact ⟨rfl, B2⟩
set_option maxRecDepth 100000 in
set_option maxHeartbeats 1000000 in
theorem qbin_unsigned (x y : Nat) (w : World) (hx : x < 18446744073709551616) (hy : y < 18446744073709551616) : Calls Try.prog 27 #[.string ⟨#[62, 62, 62]⟩, .float .f64 x, .float .f64 y] w fun e w' => e = .returned (.tuple #[.float .f64 (floatOfInt .f64 ((u32V x : Int) / 2 ^ min (u32V y % 32) 32)), .int .i64 0]) ∧ Below w.heap.size w w' := by
  have C1 := Lib.hid (fun W => qu32_any x W hx)
  have C2 := Lib.hid (fun W => qu32_any y W hy)
  have hu := u32V_lt y
  obtain ⟨i, hi⟩ : ∃ i, u32V x = i := ⟨_, rfl⟩
  obtain ⟨u, hu2⟩ : ∃ u, u32V y = u := ⟨_, rfl⟩
  rw [hu2] at hu C2 ⊢
  rw [hi] at C1 ⊢
  have k1 : (u : Int) % 32 = ((u % 32 : Nat) : Int) := by omega
  have k1' : Int.tmod (u : Int) 32 = ((u % 32 : Nat) : Int) := by rw [Int.tmod_eq_emod_of_nonneg (by omega)]; exact k1
  have k2 : IntKind.u32.wrap ((u % 32 : Nat) : Int) = ((u % 32 : Nat) : Int) := by rw [IntKind.wrap_u32]; omega
  rw [show min (u % 32) 32 = u % 32 by omega]
  obtain ⟨s, hs⟩ : ∃ s, u % 32 = s := ⟨_, rfl⟩
  rw [hs] at k1 k1' k2 ⊢
  have t1 : (0 : Int) ≤ (s : Int) := by omega
  clear hx hy hi hu2 hs hu
  go_enter Try.func27, Try.ntmps27
  go_wp2_with fail
  refine (C1.out _).mono ?_
  rintro e w1 ⟨rfl, b1⟩
  go_wp2_with fail
  refine (C2.out _).mono ?_
  rintro e w2 ⟨rfl, b2⟩
  have B2 := below_le b1 b2
  clear b1 b2
  go_wp2
  go_ret2
  exact ⟨rfl, B2⟩
set_option maxRecDepth 100000 in
theorem qbin_none (op : ByteArray) (x y : Nat) (w : World) (h0 : (op.toList == [43]) = false) (h1 : (op.toList == [45]) = false) (h2 : (op.toList == [42]) = false) (h3 : (op.toList == [47]) = false) (h4 : (op.toList == [37]) = false) (h5 : (op.toList == [60, 60]) = false) (h6 : (op.toList == [62, 62]) = false) (h7 : (op.toList == [62, 62, 62]) = false) (h8 : (op.toList == [38]) = false) (h9 : (op.toList == [124]) = false) (h10 : (op.toList == [94]) = false) : Calls Try.prog 27 #[.string op, .float .f64 x, .float .f64 y] w fun e w' => e = .returned (.tuple #[.float .f64 0, .int .i64 1]) ∧ w = w' := by
  go_enter Try.func27, Try.ntmps27
  go_wp2
  go_ret2
  exact ⟨rfl, rfl⟩
end Go.Proofs.Ytacmbbjmcdbcnaa
