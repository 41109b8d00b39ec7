/-
  Atan2 of the program and of the reference: their ways, branch by branch.
-/
import Derived.Test.YtbinpcoaghpcdaaAu
namespace Go.Proofs.Ytbinpcoaghpcdaa
open Go.RowKit
set_option maxRecDepth 100000 in
set_option maxHeartbeats 1000000 in
theorem fabove_ttt (a b : Nat) (w : World) (ha : a < 18446744073709551616) (hb : b < 18446744073709551616) (ti : finf a = true) (wi : finf b = true) (ya : (FloatKind.f64.format.order a 0 == some .eq) = false) (xb : (FloatKind.f64.format.order b 0 == some .eq) = false)  : Calls Try.prog 57 #[.float .f64 a, .float .f64 b, .bool true] w fun e w' => e = .returned (.float .f64 4612488097114038738) ∧ w = w' := by
  have TI := Lib.hid (fun W => isInf0_any a W ha)
  rw [ti] at TI
  have WI := Lib.hid (fun W => isInf0_any b W hb)
  rw [wi] at WI
  have CC := Lib.hid (fun c W => const_any c W)
  clear ha hb ti wi
  go_enter Try.func57, Try.ntmps57
  go_wp2_with fail
  refine (TI.out _).mono ?_
  rintro e w' ⟨rfl, rfl⟩
  go_wp2_with fail
  refine (WI.out _).mono ?_
  rintro e w' ⟨rfl, rfl⟩
  go_wp2_with fail
  refine (CC.out _ _).mono ?_
  rintro e w' ⟨rfl, rfl⟩
  go_wp2
  go_ret
  exact ⟨rfl, rfl⟩
set_option maxRecDepth 100000 in
set_option maxHeartbeats 1000000 in
theorem fabove_x0_ttf (a b : Nat) (w : World) (ha : a < 18446744073709551616) (hb : b < 18446744073709551616) (ti : finf a = true) (wi : finf b = false) (ya : (FloatKind.f64.format.order a 0 == some .eq) = false) (xb : (FloatKind.f64.format.order b 0 == some .eq) = true) : Calls Try.prog 57 #[.float .f64 a, .float .f64 b, .bool true] w fun e w' => e = .returned (.float .f64 4609753056924675352) ∧ w = w' := by
  have TI := Lib.hid (fun W => isInf0_any a W ha)
  rw [ti] at TI
  have WI := Lib.hid (fun W => isInf0_any b W hb)
  rw [wi] at WI
  have CC := Lib.hid (fun c W => const_any c W)
  clear ha hb ti wi
  go_enter Try.func57, Try.ntmps57
  go_wp2_with fail
  refine (TI.out _).mono ?_
  rintro e w' ⟨rfl, rfl⟩
  go_wp2_with fail
  refine (WI.out _).mono ?_
  rintro e w' ⟨rfl, rfl⟩
  go_wp2_with fail
  refine (CC.out _ _).mono ?_
  rintro e w' ⟨rfl, rfl⟩
  go_wp2
  go_ret
  exact ⟨rfl, rfl⟩
set_option maxRecDepth 100000 in
set_option maxHeartbeats 1000000 in
theorem fabove_ttf (a b : Nat) (w : World) (ha : a < 18446744073709551616) (hb : b < 18446744073709551616) (ti : finf a = true) (wi : finf b = false) (ya : (FloatKind.f64.format.order a 0 == some .eq) = false) (xb : (FloatKind.f64.format.order b 0 == some .eq) = false)  : Calls Try.prog 57 #[.float .f64 a, .float .f64 b, .bool true] w fun e w' => e = .returned (.float .f64 4609753056924675352) ∧ w = w' := by
  have TI := Lib.hid (fun W => isInf0_any a W ha)
  rw [ti] at TI
  have WI := Lib.hid (fun W => isInf0_any b W hb)
  rw [wi] at WI
  have CC := Lib.hid (fun c W => const_any c W)
  clear ha hb ti wi
  go_enter Try.func57, Try.ntmps57
  go_wp2_with fail
  refine (TI.out _).mono ?_
  rintro e w' ⟨rfl, rfl⟩
  go_wp2_with fail
  refine (WI.out _).mono ?_
  rintro e w' ⟨rfl, rfl⟩
  go_wp2_with fail
  refine (CC.out _ _).mono ?_
  rintro e w' ⟨rfl, rfl⟩
  go_wp2
  go_ret
  exact ⟨rfl, rfl⟩
set_option maxRecDepth 100000 in
set_option maxHeartbeats 1000000 in
theorem fabove_y0_tft (a b : Nat) (w : World) (ha : a < 18446744073709551616) (hb : b < 18446744073709551616) (ti : finf a = false) (wi : finf b = true) (ya : (FloatKind.f64.format.order a 0 == some .eq) = true) : Calls Try.prog 57 #[.float .f64 a, .float .f64 b, .bool true] w fun e w' => e = .returned (.float .f64 4614256656552045848) ∧ w = w' := by
  have TI := Lib.hid (fun W => isInf0_any a W ha)
  rw [ti] at TI
  have WI := Lib.hid (fun W => isInf0_any b W hb)
  rw [wi] at WI
  have CC := Lib.hid (fun c W => const_any c W)
  have ps : ∀ W : World, (binOp .sub 22 (.float .f64 4614256656552045848) (.float .f64 0)).run Try.prog W = .ok (.float .f64 4614256656552045848) W := wSub (by decide +kernel)
  clear ha hb ti wi
  go_enter Try.func57, Try.ntmps57
  go_wp2_with fail
  refine (TI.out _).mono ?_
  rintro e w' ⟨rfl, rfl⟩
  go_wp2_with fail
  refine (WI.out _).mono ?_
  rintro e w' ⟨rfl, rfl⟩
  go_wp2_with fail
  refine (CC.out _ _).mono ?_
  rintro e w' ⟨rfl, rfl⟩
  go_wp2
  go_ret
  exact ⟨rfl, rfl⟩
set_option maxRecDepth 100000 in
set_option maxHeartbeats 1000000 in
theorem fabove_tft (a b : Nat) (w : World) (ha : a < 18446744073709551616) (hb : b < 18446744073709551616) (ti : finf a = false) (wi : finf b = true) (ya : (FloatKind.f64.format.order a 0 == some .eq) = false) (xb : (FloatKind.f64.format.order b 0 == some .eq) = false)  : Calls Try.prog 57 #[.float .f64 a, .float .f64 b, .bool true] w fun e w' => e = .returned (.float .f64 4614256656552045848) ∧ w = w' := by
  have TI := Lib.hid (fun W => isInf0_any a W ha)
  rw [ti] at TI
  have WI := Lib.hid (fun W => isInf0_any b W hb)
  rw [wi] at WI
  have CC := Lib.hid (fun c W => const_any c W)
  have ps : ∀ W : World, (binOp .sub 22 (.float .f64 4614256656552045848) (.float .f64 0)).run Try.prog W = .ok (.float .f64 4614256656552045848) W := wSub (by decide +kernel)
  clear ha hb ti wi
  go_enter Try.func57, Try.ntmps57
  go_wp2_with fail
  refine (TI.out _).mono ?_
  rintro e w' ⟨rfl, rfl⟩
  go_wp2_with fail
  refine (WI.out _).mono ?_
  rintro e w' ⟨rfl, rfl⟩
  go_wp2_with fail
  refine (CC.out _ _).mono ?_
  rintro e w' ⟨rfl, rfl⟩
  go_wp2
  go_ret
  exact ⟨rfl, rfl⟩
set_option maxRecDepth 100000 in
set_option maxHeartbeats 1000000 in
theorem fabove_y0_tff (a b : Nat) (w : World) (ha : a < 18446744073709551616) (hb : b < 18446744073709551616) (ti : finf a = false) (wi : finf b = false) (ya : (FloatKind.f64.format.order a 0 == some .eq) = true) : Calls Try.prog 57 #[.float .f64 a, .float .f64 b, .bool true] w fun e w' => e = .returned (.float .f64 4614256656552045848) ∧ w = w' := by
  have TI := Lib.hid (fun W => isInf0_any a W ha)
  rw [ti] at TI
  have WI := Lib.hid (fun W => isInf0_any b W hb)
  rw [wi] at WI
  have CC := Lib.hid (fun c W => const_any c W)
  have ps : ∀ W : World, (binOp .sub 22 (.float .f64 4614256656552045848) (.float .f64 0)).run Try.prog W = .ok (.float .f64 4614256656552045848) W := wSub (by decide +kernel)
  clear ha hb ti wi
  go_enter Try.func57, Try.ntmps57
  go_wp2_with fail
  refine (TI.out _).mono ?_
  rintro e w' ⟨rfl, rfl⟩
  go_wp2_with fail
  refine (WI.out _).mono ?_
  rintro e w' ⟨rfl, rfl⟩
  go_wp2_with fail
  refine (CC.out _ _).mono ?_
  rintro e w' ⟨rfl, rfl⟩
  go_wp2
  go_ret
  exact ⟨rfl, rfl⟩
set_option maxRecDepth 100000 in
set_option maxHeartbeats 1000000 in
theorem fabove_x0_tff (a b : Nat) (w : World) (ha : a < 18446744073709551616) (hb : b < 18446744073709551616) (ti : finf a = false) (wi : finf b = false) (ya : (FloatKind.f64.format.order a 0 == some .eq) = false) (xb : (FloatKind.f64.format.order b 0 == some .eq) = true) : Calls Try.prog 57 #[.float .f64 a, .float .f64 b, .bool true] w fun e w' => e = .returned (.float .f64 4609753056924675352) ∧ w = w' := by
  have TI := Lib.hid (fun W => isInf0_any a W ha)
  rw [ti] at TI
  have WI := Lib.hid (fun W => isInf0_any b W hb)
  rw [wi] at WI
  have CC := Lib.hid (fun c W => const_any c W)
  clear ha hb ti wi
  go_enter Try.func57, Try.ntmps57
  go_wp2_with fail
  refine (TI.out _).mono ?_
  rintro e w' ⟨rfl, rfl⟩
  go_wp2_with fail
  refine (WI.out _).mono ?_
  rintro e w' ⟨rfl, rfl⟩
  go_wp2_with fail
  refine (CC.out _ _).mono ?_
  rintro e w' ⟨rfl, rfl⟩
  go_wp2
  go_ret
  exact ⟨rfl, rfl⟩
set_option maxRecDepth 100000 in
set_option maxHeartbeats 1000000 in
theorem fabove_tff (a b q t r : Nat) (w : World) (ha : a < 18446744073709551616) (hb : b < 18446744073709551616) (ti : finf a = false) (wi : finf b = false) (ya : (FloatKind.f64.format.order a 0 == some .eq) = false) (xb : (FloatKind.f64.format.order b 0 == some .eq) = false) (d : Ieee.double.div a b = some q) (CT : RowKit.Hid (∀ W : World, Calls Try.prog 22 #[.float .f64 q] W fun e w' => e = .returned (.float .f64 t) ∧ W = w')) (s : Ieee.double.sub 4614256656552045848 t = some r) : Calls Try.prog 57 #[.float .f64 a, .float .f64 b, .bool true] w fun e w' => e = .returned (.float .f64 r) ∧ w = w' := by
  have TI := Lib.hid (fun W => isInf0_any a W ha)
  rw [ti] at TI
  have WI := Lib.hid (fun W => isInf0_any b W hb)
  rw [wi] at WI
  have CC := Lib.hid (fun c W => const_any c W)
  have wd := wDiv d
  have ws := wSub s
  clear ha hb ti wi d s
  go_enter Try.func57, Try.ntmps57
  go_wp2_with fail
  refine (TI.out _).mono ?_
  rintro e w' ⟨rfl, rfl⟩
  go_wp2_with fail
  refine (WI.out _).mono ?_
  rintro e w' ⟨rfl, rfl⟩
  go_wp2_with fail
  refine (CT.out _).mono ?_
  rintro e w' ⟨rfl, rfl⟩
  go_wp2_with fail
  refine (CC.out _ _).mono ?_
  rintro e w' ⟨rfl, rfl⟩
  go_wp2
  go_ret
  exact ⟨rfl, rfl⟩
set_option maxRecDepth 100000 in
set_option maxHeartbeats 1000000 in
theorem fabove_ftt (a b : Nat) (w : World) (ha : a < 18446744073709551616) (hb : b < 18446744073709551616) (ti : finf a = true) (wi : finf b = true) (ya : (FloatKind.f64.format.order a 0 == some .eq) = false) (xb : (FloatKind.f64.format.order b 0 == some .eq) = false)  : Calls Try.prog 57 #[.float .f64 a, .float .f64 b, .bool false] w fun e w' => e = .returned (.float .f64 4605249457297304856) ∧ w = w' := by
  have TI := Lib.hid (fun W => isInf0_any a W ha)
  rw [ti] at TI
  have WI := Lib.hid (fun W => isInf0_any b W hb)
  rw [wi] at WI
  have CC := Lib.hid (fun c W => const_any c W)
  clear ha hb ti wi
  go_enter Try.func57, Try.ntmps57
  go_wp2_with fail
  refine (TI.out _).mono ?_
  rintro e w' ⟨rfl, rfl⟩
  go_wp2_with fail
  refine (WI.out _).mono ?_
  rintro e w' ⟨rfl, rfl⟩
  go_wp2_with fail
  refine (CC.out _ _).mono ?_
  rintro e w' ⟨rfl, rfl⟩
  go_wp2
  go_ret
  exact ⟨rfl, rfl⟩
set_option maxRecDepth 100000 in
set_option maxHeartbeats 1000000 in
theorem fabove_x0_ftf (a b : Nat) (w : World) (ha : a < 18446744073709551616) (hb : b < 18446744073709551616) (ti : finf a = true) (wi : finf b = false) (ya : (FloatKind.f64.format.order a 0 == some .eq) = false) (xb : (FloatKind.f64.format.order b 0 == some .eq) = true) : Calls Try.prog 57 #[.float .f64 a, .float .f64 b, .bool false] w fun e w' => e = .returned (.float .f64 4609753056924675352) ∧ w = w' := by
  have TI := Lib.hid (fun W => isInf0_any a W ha)
  rw [ti] at TI
  have WI := Lib.hid (fun W => isInf0_any b W hb)
  rw [wi] at WI
  have CC := Lib.hid (fun c W => const_any c W)
  clear ha hb ti wi
  go_enter Try.func57, Try.ntmps57
  go_wp2_with fail
  refine (TI.out _).mono ?_
  rintro e w' ⟨rfl, rfl⟩
  go_wp2_with fail
  refine (WI.out _).mono ?_
  rintro e w' ⟨rfl, rfl⟩
  go_wp2_with fail
  refine (CC.out _ _).mono ?_
  rintro e w' ⟨rfl, rfl⟩
  go_wp2
  go_ret
  exact ⟨rfl, rfl⟩
set_option maxRecDepth 100000 in
set_option maxHeartbeats 1000000 in
theorem fabove_ftf (a b : Nat) (w : World) (ha : a < 18446744073709551616) (hb : b < 18446744073709551616) (ti : finf a = true) (wi : finf b = false) (ya : (FloatKind.f64.format.order a 0 == some .eq) = false) (xb : (FloatKind.f64.format.order b 0 == some .eq) = false)  : Calls Try.prog 57 #[.float .f64 a, .float .f64 b, .bool false] w fun e w' => e = .returned (.float .f64 4609753056924675352) ∧ w = w' := by
  have TI := Lib.hid (fun W => isInf0_any a W ha)
  rw [ti] at TI
  have WI := Lib.hid (fun W => isInf0_any b W hb)
  rw [wi] at WI
  have CC := Lib.hid (fun c W => const_any c W)
  clear ha hb ti wi
  go_enter Try.func57, Try.ntmps57
  go_wp2_with fail
  refine (TI.out _).mono ?_
  rintro e w' ⟨rfl, rfl⟩
  go_wp2_with fail
  refine (WI.out _).mono ?_
  rintro e w' ⟨rfl, rfl⟩
  go_wp2_with fail
  refine (CC.out _ _).mono ?_
  rintro e w' ⟨rfl, rfl⟩
  go_wp2
  go_ret
  exact ⟨rfl, rfl⟩
set_option maxRecDepth 100000 in
set_option maxHeartbeats 1000000 in
theorem fabove_y0_fft (a b : Nat) (w : World) (ha : a < 18446744073709551616) (hb : b < 18446744073709551616) (ti : finf a = false) (wi : finf b = true) (ya : (FloatKind.f64.format.order a 0 == some .eq) = true) : Calls Try.prog 57 #[.float .f64 a, .float .f64 b, .bool false] w fun e w' => e = .returned (.float .f64 0) ∧ w = w' := by
  have TI := Lib.hid (fun W => isInf0_any a W ha)
  rw [ti] at TI
  have WI := Lib.hid (fun W => isInf0_any b W hb)
  rw [wi] at WI
  clear ha hb ti wi
  go_enter Try.func57, Try.ntmps57
  go_wp2_with fail
  refine (TI.out _).mono ?_
  rintro e w' ⟨rfl, rfl⟩
  go_wp2_with fail
  refine (WI.out _).mono ?_
  rintro e w' ⟨rfl, rfl⟩
  go_wp2
  go_ret
  exact ⟨rfl, rfl⟩
set_option maxRecDepth 100000 in
set_option maxHeartbeats 1000000 in
theorem fabove_fft (a b : Nat) (w : World) (ha : a < 18446744073709551616) (hb : b < 18446744073709551616) (ti : finf a = false) (wi : finf b = true) (ya : (FloatKind.f64.format.order a 0 == some .eq) = false) (xb : (FloatKind.f64.format.order b 0 == some .eq) = false)  : Calls Try.prog 57 #[.float .f64 a, .float .f64 b, .bool false] w fun e w' => e = .returned (.float .f64 0) ∧ w = w' := by
  have TI := Lib.hid (fun W => isInf0_any a W ha)
  rw [ti] at TI
  have WI := Lib.hid (fun W => isInf0_any b W hb)
  rw [wi] at WI
  clear ha hb ti wi
  go_enter Try.func57, Try.ntmps57
  go_wp2_with fail
  refine (TI.out _).mono ?_
  rintro e w' ⟨rfl, rfl⟩
  go_wp2_with fail
  refine (WI.out _).mono ?_
  rintro e w' ⟨rfl, rfl⟩
  go_wp2
  go_ret
  exact ⟨rfl, rfl⟩
set_option maxRecDepth 100000 in
set_option maxHeartbeats 1000000 in
theorem fabove_y0_fff (a b : Nat) (w : World) (ha : a < 18446744073709551616) (hb : b < 18446744073709551616) (ti : finf a = false) (wi : finf b = false) (ya : (FloatKind.f64.format.order a 0 == some .eq) = true) : Calls Try.prog 57 #[.float .f64 a, .float .f64 b, .bool false] w fun e w' => e = .returned (.float .f64 0) ∧ w = w' := by
  have TI := Lib.hid (fun W => isInf0_any a W ha)
  rw [ti] at TI
  have WI := Lib.hid (fun W => isInf0_any b W hb)
  rw [wi] at WI
  clear ha hb ti wi
  go_enter Try.func57, Try.ntmps57
  go_wp2_with fail
  refine (TI.out _).mono ?_
  rintro e w' ⟨rfl, rfl⟩
  go_wp2_with fail
  refine (WI.out _).mono ?_
  rintro e w' ⟨rfl, rfl⟩
  go_wp2
  go_ret
  exact ⟨rfl, rfl⟩
set_option maxRecDepth 100000 in
set_option maxHeartbeats 1000000 in
theorem fabove_x0_fff (a b : Nat) (w : World) (ha : a < 18446744073709551616) (hb : b < 18446744073709551616) (ti : finf a = false) (wi : finf b = false) (ya : (FloatKind.f64.format.order a 0 == some .eq) = false) (xb : (FloatKind.f64.format.order b 0 == some .eq) = true) : Calls Try.prog 57 #[.float .f64 a, .float .f64 b, .bool false] w fun e w' => e = .returned (.float .f64 4609753056924675352) ∧ w = w' := by
  have TI := Lib.hid (fun W => isInf0_any a W ha)
  rw [ti] at TI
  have WI := Lib.hid (fun W => isInf0_any b W hb)
  rw [wi] at WI
  have CC := Lib.hid (fun c W => const_any c W)
  clear ha hb ti wi
  go_enter Try.func57, Try.ntmps57
  go_wp2_with fail
  refine (TI.out _).mono ?_
  rintro e w' ⟨rfl, rfl⟩
  go_wp2_with fail
  refine (WI.out _).mono ?_
  rintro e w' ⟨rfl, rfl⟩
  go_wp2_with fail
  refine (CC.out _ _).mono ?_
  rintro e w' ⟨rfl, rfl⟩
  go_wp2
  go_ret
  exact ⟨rfl, rfl⟩
set_option maxRecDepth 100000 in
set_option maxHeartbeats 1000000 in
theorem fabove_fff (a b q t : Nat) (w : World) (ha : a < 18446744073709551616) (hb : b < 18446744073709551616) (ti : finf a = false) (wi : finf b = false) (ya : (FloatKind.f64.format.order a 0 == some .eq) = false) (xb : (FloatKind.f64.format.order b 0 == some .eq) = false) (d : Ieee.double.div a b = some q) (CT : RowKit.Hid (∀ W : World, Calls Try.prog 22 #[.float .f64 q] W fun e w' => e = .returned (.float .f64 t) ∧ W = w')) : Calls Try.prog 57 #[.float .f64 a, .float .f64 b, .bool false] w fun e w' => e = .returned (.float .f64 t) ∧ w = w' := by
  have TI := Lib.hid (fun W => isInf0_any a W ha)
  rw [ti] at TI
  have WI := Lib.hid (fun W => isInf0_any b W hb)
  rw [wi] at WI
  have wd := wDiv d
  clear ha hb ti wi d
  go_enter Try.func57, Try.ntmps57
  go_wp2_with fail
  refine (TI.out _).mono ?_
  rintro e w' ⟨rfl, rfl⟩
  go_wp2_with fail
  refine (WI.out _).mono ?_
  rintro e w' ⟨rfl, rfl⟩
  go_wp2_with fail
  refine (CT.out _).mono ?_
  rintro e w' ⟨rfl, rfl⟩
  go_wp2
  go_ret
  exact ⟨rfl, rfl⟩
set_option maxRecDepth 100000 in
set_option maxHeartbeats 1000000 in
theorem fAtan2_ynan (y x : Nat) (w : World) (ny : fnan y = true) : Calls Try.prog 28 #[.float .f64 y, .float .f64 x] w fun e w' => e = .returned (.float .f64 9221120237041090560) ∧ w = w' := by
  have NY := Lib.hid (fun W => isNaN_any y W)
  rw [ny] at NY
  have CQ := Lib.hid (fun W => const_any 9221120237041090560 W)
  clear ny
  go_enter Try.func28, Try.ntmps28
  go_wp2_with fail
  refine (NY.out _).mono ?_
  rintro e w' ⟨rfl, rfl⟩
  go_wp2_with fail
  refine (CQ.out _).mono ?_
  rintro e w' ⟨rfl, rfl⟩
  go_wp2
  go_ret
  exact ⟨rfl, rfl⟩
set_option maxRecDepth 100000 in
set_option maxHeartbeats 1000000 in
theorem fAtan2_xnan (y x : Nat) (w : World) (ny : fnan y = false) (nx : fnan x = true) : Calls Try.prog 28 #[.float .f64 y, .float .f64 x] w fun e w' => e = .returned (.float .f64 9221120237041090560) ∧ w = w' := by
  have NY := Lib.hid (fun W => isNaN_any y W)
  rw [ny] at NY
  have NX := Lib.hid (fun W => isNaN_any x W)
  rw [nx] at NX
  have CQ := Lib.hid (fun W => const_any 9221120237041090560 W)
  clear ny nx
  go_enter Try.func28, Try.ntmps28
  go_wp2_with fail
  refine (NY.out _).mono ?_
  rintro e w' ⟨rfl, rfl⟩
  go_wp2_with fail
  refine (NX.out _).mono ?_
  rintro e w' ⟨rfl, rfl⟩
  go_wp2_with fail
  refine (CQ.out _).mono ?_
  rintro e w' ⟨rfl, rfl⟩
  go_wp2
  go_ret
  exact ⟨rfl, rfl⟩
set_option maxRecDepth 100000 in
set_option maxHeartbeats 1000000 in
theorem fAtan2_main (y x r : Nat) (w : World) (hy : y < 18446744073709551616) (hx : x < 18446744073709551616) (hr : r < 18446744073709551616) (ny : fnan y = false) (nx : fnan x = false) (CM : RowKit.Hid (∀ W : World, Calls Try.prog 57 #[.float .f64 (rung y), .float .f64 (rung x), .bool (fneg x)] W fun e w' => e = .returned (.float .f64 r) ∧ W = w')) : Calls Try.prog 28 #[.float .f64 y, .float .f64 x] w fun e w' => e = .returned (.float .f64 (Ieee.double.word (fneg y) (rung r))) ∧ w = w' := by
  have NY := Lib.hid (fun W => isNaN_any y W)
  rw [ny] at NY
  have NX := Lib.hid (fun W => isNaN_any x W)
  rw [nx] at NX
  have CY := Lib.hid (fun W => nabs_any y W hy ny)
  have CX := Lib.hid (fun W => nabs_any x W hx nx)
  have CS := Lib.hid (fun W => signbit_any x W hx)
  have CP := Lib.hid (fun W => copysign_any r y W hr hy)
  obtain ⟨R, hR⟩ : ∃ R, Ieee.double.word (fneg y) (rung r) = R := ⟨_, rfl⟩
  rw [hR] at CP ⊢
  obtain ⟨l, hl⟩ : ∃ l, fneg x = l := ⟨_, rfl⟩
  rw [hl] at CS CM
  obtain ⟨b, hb⟩ : ∃ b, rung x = b := ⟨_, rfl⟩
  rw [hb] at CX CM
  obtain ⟨a, ha⟩ : ∃ a, rung y = a := ⟨_, rfl⟩
  rw [ha] at CY CM
  clear hy hx hr ny nx hR hl hb ha
  go_enter Try.func28, Try.ntmps28
  go_wp2_with fail
  refine (NY.out _).mono ?_
  rintro e w' ⟨rfl, rfl⟩
  go_wp2_with fail
  refine (NX.out _).mono ?_
  rintro e w' ⟨rfl, rfl⟩
  go_wp2_with fail
  refine (CY.out _).mono ?_
  rintro e w' ⟨rfl, rfl⟩
  go_wp2_with fail
  refine (CX.out _).mono ?_
  rintro e w' ⟨rfl, rfl⟩
  go_wp2_with fail
  refine (CS.out _).mono ?_
  rintro e w' ⟨rfl, rfl⟩
  go_wp2_with fail
  refine (CM.out _).mono ?_
  rintro e w' ⟨rfl, rfl⟩
  go_wp2_with fail
  refine (CP.out _).mono ?_
  rintro e w' ⟨rfl, rfl⟩
  go_wp2
  go_ret
  exact ⟨rfl, rfl⟩
set_option maxRecDepth 100000 in
set_option maxHeartbeats 1000000 in
theorem vAtan2_xnan (y x : Nat) (w : World) (nx : fnan x = true) : Calls Try.prog 29 #[.float .f64 y, .float .f64 x] w fun e w' => e = .returned (.float .f64 9221120237041090560) ∧ w = w' := by
  have NX := Lib.hid (fun W => isNaN_any x W)
  rw [nx] at NX
  have CQ := Lib.hid (fun W => vnan_any W)
  clear nx
  go_enter Try.func29, Try.ntmps29
  go_wp2_with fail
  refine (NX.out _).mono ?_
  rintro e w' ⟨rfl, rfl⟩
  go_wp2_with fail
  refine (CQ.out _).mono ?_
  rintro e w' ⟨rfl, rfl⟩
  go_wp2
  go_ret
  exact ⟨rfl, rfl⟩
set_option maxRecDepth 100000 in
set_option maxHeartbeats 1000000 in
theorem vAtan2_ynan (y x : Nat) (w : World) (nx : fnan x = false) (ny : fnan y = true) : Calls Try.prog 29 #[.float .f64 y, .float .f64 x] w fun e w' => e = .returned (.float .f64 9221120237041090560) ∧ w = w' := by
  have NY := Lib.hid (fun W => isNaN_any y W)
  rw [ny] at NY
  have NX := Lib.hid (fun W => isNaN_any x W)
  rw [nx] at NX
  have CQ := Lib.hid (fun W => vnan_any W)
  clear ny nx
  go_enter Try.func29, Try.ntmps29
  go_wp2_with fail
  refine (NX.out _).mono ?_
  rintro e w' ⟨rfl, rfl⟩
  go_wp2_with fail
  refine (NY.out _).mono ?_
  rintro e w' ⟨rfl, rfl⟩
  go_wp2_with fail
  refine (CQ.out _).mono ?_
  rintro e w' ⟨rfl, rfl⟩
  go_wp2
  go_ret
  exact ⟨rfl, rfl⟩
set_option maxRecDepth 100000 in
set_option maxHeartbeats 1000000 in
theorem vAtan2_y0_t (y x : Nat) (w : World) (hy : y < 18446744073709551616) (hx : x < 18446744073709551616) (nx : fnan x = false) (ny : fnan y = false) (sx : fneg x = true) (zy : (FloatKind.f64.format.order y 0 == some .eq) = true) : Calls Try.prog 29 #[.float .f64 y, .float .f64 x] w fun e w' => e = .returned (.float .f64 (Ieee.double.word (fneg y) (rung 4614256656552045848))) ∧ w = w' := by
  have NX := Lib.hid (fun W => isNaN_any x W)
  rw [nx] at NX
  have NY := Lib.hid (fun W => isNaN_any y W)
  rw [ny] at NY
  have CS := Lib.hid (fun W => signbit_any x W hx)
  rw [sx] at CS
  have CP := Lib.hid (fun W => copysign_any 4614256656552045848 y W (by omega) hy)
  obtain ⟨R, hR⟩ : ∃ R, Ieee.double.word (fneg y) (rung 4614256656552045848) = R := ⟨_, rfl⟩
  rw [hR] at CP ⊢
  have CI := Lib.hid (fun W => vpi_any W)
  clear hy hx nx ny sx hR 
  go_enter Try.func29, Try.ntmps29
  go_wp2_with fail
  refine (NX.out _).mono ?_
  rintro e w' ⟨rfl, rfl⟩
  go_wp2_with fail
  refine (NY.out _).mono ?_
  rintro e w' ⟨rfl, rfl⟩
  go_wp2_with fail
  refine (CS.out _).mono ?_
  rintro e w' ⟨rfl, rfl⟩
  go_wp2_with fail
  refine (CI.out _).mono ?_
  rintro e w' ⟨rfl, rfl⟩
  go_wp2_with fail
  refine (CP.out _).mono ?_
  rintro e w' ⟨rfl, rfl⟩
  go_wp2
  go_ret
  exact ⟨rfl, rfl⟩
set_option maxRecDepth 100000 in
set_option maxHeartbeats 1000000 in
theorem vAtan2_x0_t (y x : Nat) (w : World) (hy : y < 18446744073709551616) (hx : x < 18446744073709551616) (nx : fnan x = false) (ny : fnan y = false) (sx : fneg x = true) (zy : (FloatKind.f64.format.order y 0 == some .eq) = false) (zx : (FloatKind.f64.format.order x 0 == some .eq) = true) : Calls Try.prog 29 #[.float .f64 y, .float .f64 x] w fun e w' => e = .returned (.float .f64 (Ieee.double.word (fneg y) (rung 4609753056924675352))) ∧ w = w' := by
  have NX := Lib.hid (fun W => isNaN_any x W)
  rw [nx] at NX
  have NY := Lib.hid (fun W => isNaN_any y W)
  rw [ny] at NY
  have CS := Lib.hid (fun W => signbit_any x W hx)
  rw [sx] at CS
  have CP := Lib.hid (fun W => copysign_any 4609753056924675352 y W (by omega) hy)
  obtain ⟨R, hR⟩ : ∃ R, Ieee.double.word (fneg y) (rung 4609753056924675352) = R := ⟨_, rfl⟩
  rw [hR] at CP ⊢
  have CI2 := Lib.hid (fun W => vpi2_any W)
  clear hy hx nx ny sx hR 
  go_enter Try.func29, Try.ntmps29
  go_wp2_with fail
  refine (NX.out _).mono ?_
  rintro e w' ⟨rfl, rfl⟩
  go_wp2_with fail
  refine (NY.out _).mono ?_
  rintro e w' ⟨rfl, rfl⟩
  go_wp2_with fail
  refine (CS.out _).mono ?_
  rintro e w' ⟨rfl, rfl⟩
  go_wp2_with fail
  refine (CI2.out _).mono ?_
  rintro e w' ⟨rfl, rfl⟩
  go_wp2_with fail
  refine (CP.out _).mono ?_
  rintro e w' ⟨rfl, rfl⟩
  go_wp2
  go_ret
  exact ⟨rfl, rfl⟩
set_option maxRecDepth 100000 in
set_option maxHeartbeats 1000000 in
theorem vAtan2_both_t (y x : Nat) (w : World) (hy : y < 18446744073709551616) (hx : x < 18446744073709551616) (nx : fnan x = false) (ny : fnan y = false) (sx : fneg x = true) (zy : (FloatKind.f64.format.order y 0 == some .eq) = false) (zx : (FloatKind.f64.format.order x 0 == some .eq) = false) (ix : finf x = true) (iy : finf y = true) : Calls Try.prog 29 #[.float .f64 y, .float .f64 x] w fun e w' => e = .returned (.float .f64 (Ieee.double.word (fneg y) (rung 4612488097114038738))) ∧ w = w' := by
  have NX := Lib.hid (fun W => isNaN_any x W)
  rw [nx] at NX
  have NY := Lib.hid (fun W => isNaN_any y W)
  rw [ny] at NY
  have CS := Lib.hid (fun W => signbit_any x W hx)
  rw [sx] at CS
  have CP := Lib.hid (fun W => copysign_any 4612488097114038738 y W (by omega) hy)
  obtain ⟨R, hR⟩ : ∃ R, Ieee.double.word (fneg y) (rung 4612488097114038738) = R := ⟨_, rfl⟩
  rw [hR] at CP ⊢
  have JX := Lib.hid (fun W => isInf0_any x W hx)
  rw [ix] at JX
  have JY := Lib.hid (fun W => isInf0_any y W hy)
  rw [iy] at JY
  have CI4 := Lib.hid (fun W => vpi4_any W)
  have CO := Lib.hid (fun W => of_any 4612488097114038738 W)
  clear hy hx nx ny sx hR ix iy
  go_enter Try.func29, Try.ntmps29
  go_wp2_with fail
  refine (NX.out _).mono ?_
  rintro e w' ⟨rfl, rfl⟩
  go_wp2_with fail
  refine (NY.out _).mono ?_
  rintro e w' ⟨rfl, rfl⟩
  go_wp2_with fail
  refine (CS.out _).mono ?_
  rintro e w' ⟨rfl, rfl⟩
  go_wp2_with fail
  refine (JX.out _).mono ?_
  rintro e w' ⟨rfl, rfl⟩
  go_wp2_with fail
  refine (JY.out _).mono ?_
  rintro e w' ⟨rfl, rfl⟩
  go_wp2_with fail
  refine (CI4.out _).mono ?_
  rintro e w' ⟨rfl, rfl⟩
  go_wp2_with fail
  refine (CO.out _).mono ?_
  rintro e w' ⟨rfl, rfl⟩
  go_wp2_with fail
  refine (CP.out _).mono ?_
  rintro e w' ⟨rfl, rfl⟩
  go_wp2
  go_ret
  exact ⟨rfl, rfl⟩
set_option maxRecDepth 100000 in
set_option maxHeartbeats 1000000 in
theorem vAtan2_yinf_t (y x : Nat) (w : World) (hy : y < 18446744073709551616) (hx : x < 18446744073709551616) (nx : fnan x = false) (ny : fnan y = false) (sx : fneg x = true) (zy : (FloatKind.f64.format.order y 0 == some .eq) = false) (zx : (FloatKind.f64.format.order x 0 == some .eq) = false) (ix : finf x = false) (iy : finf y = true) : Calls Try.prog 29 #[.float .f64 y, .float .f64 x] w fun e w' => e = .returned (.float .f64 (Ieee.double.word (fneg y) (rung 4609753056924675352))) ∧ w = w' := by
  have NX := Lib.hid (fun W => isNaN_any x W)
  rw [nx] at NX
  have NY := Lib.hid (fun W => isNaN_any y W)
  rw [ny] at NY
  have CS := Lib.hid (fun W => signbit_any x W hx)
  rw [sx] at CS
  have CP := Lib.hid (fun W => copysign_any 4609753056924675352 y W (by omega) hy)
  obtain ⟨R, hR⟩ : ∃ R, Ieee.double.word (fneg y) (rung 4609753056924675352) = R := ⟨_, rfl⟩
  rw [hR] at CP ⊢
  have JX := Lib.hid (fun W => isInf0_any x W hx)
  rw [ix] at JX
  have JY := Lib.hid (fun W => isInf0_any y W hy)
  rw [iy] at JY
  have CI2 := Lib.hid (fun W => vpi2_any W)
  clear hy hx nx ny sx hR ix iy
  go_enter Try.func29, Try.ntmps29
  go_wp2_with fail
  refine (NX.out _).mono ?_
  rintro e w' ⟨rfl, rfl⟩
  go_wp2_with fail
  refine (NY.out _).mono ?_
  rintro e w' ⟨rfl, rfl⟩
  go_wp2_with fail
  refine (CS.out _).mono ?_
  rintro e w' ⟨rfl, rfl⟩
  go_wp2_with fail
  refine (JX.out _).mono ?_
  rintro e w' ⟨rfl, rfl⟩
  go_wp2_with fail
  refine (JY.out _).mono ?_
  rintro e w' ⟨rfl, rfl⟩
  go_wp2_with fail
  refine (CI2.out _).mono ?_
  rintro e w' ⟨rfl, rfl⟩
  go_wp2_with fail
  refine (CP.out _).mono ?_
  rintro e w' ⟨rfl, rfl⟩
  go_wp2
  go_ret
  exact ⟨rfl, rfl⟩
set_option maxRecDepth 100000 in
set_option maxHeartbeats 1000000 in
theorem vAtan2_xinf_t (y x : Nat) (w : World) (hy : y < 18446744073709551616) (hx : x < 18446744073709551616) (nx : fnan x = false) (ny : fnan y = false) (sx : fneg x = true) (zy : (FloatKind.f64.format.order y 0 == some .eq) = false) (zx : (FloatKind.f64.format.order x 0 == some .eq) = false) (ix : finf x = true) (iy : finf y = false) : Calls Try.prog 29 #[.float .f64 y, .float .f64 x] w fun e w' => e = .returned (.float .f64 (Ieee.double.word (fneg y) (rung 4614256656552045848))) ∧ w = w' := by
  have NX := Lib.hid (fun W => isNaN_any x W)
  rw [nx] at NX
  have NY := Lib.hid (fun W => isNaN_any y W)
  rw [ny] at NY
  have CS := Lib.hid (fun W => signbit_any x W hx)
  rw [sx] at CS
  have CP := Lib.hid (fun W => copysign_any 4614256656552045848 y W (by omega) hy)
  obtain ⟨R, hR⟩ : ∃ R, Ieee.double.word (fneg y) (rung 4614256656552045848) = R := ⟨_, rfl⟩
  rw [hR] at CP ⊢
  have JX := Lib.hid (fun W => isInf0_any x W hx)
  rw [ix] at JX
  have JY := Lib.hid (fun W => isInf0_any y W hy)
  rw [iy] at JY
  have CI := Lib.hid (fun W => vpi_any W)
  clear hy hx nx ny sx hR ix iy
  go_enter Try.func29, Try.ntmps29
  go_wp2_with fail
  refine (NX.out _).mono ?_
  rintro e w' ⟨rfl, rfl⟩
  go_wp2_with fail
  refine (NY.out _).mono ?_
  rintro e w' ⟨rfl, rfl⟩
  go_wp2_with fail
  refine (CS.out _).mono ?_
  rintro e w' ⟨rfl, rfl⟩
  go_wp2_with fail
  refine (JX.out _).mono ?_
  rintro e w' ⟨rfl, rfl⟩
  go_wp2_with fail
  refine (JY.out _).mono ?_
  rintro e w' ⟨rfl, rfl⟩
  go_wp2_with fail
  refine (JY.out _).mono ?_
  rintro e w' ⟨rfl, rfl⟩
  go_wp2_with fail
  refine (JX.out _).mono ?_
  rintro e w' ⟨rfl, rfl⟩
  go_wp2_with fail
  refine (CI.out _).mono ?_
  rintro e w' ⟨rfl, rfl⟩
  go_wp2_with fail
  refine (CP.out _).mono ?_
  rintro e w' ⟨rfl, rfl⟩
  go_wp2
  go_ret
  exact ⟨rfl, rfl⟩
set_option maxRecDepth 100000 in
set_option maxHeartbeats 1000000 in
theorem vAtan2_fin_t (y x q t r : Nat) (w : World) (hy : y < 18446744073709551616) (hx : x < 18446744073709551616) (nx : fnan x = false) (ny : fnan y = false) (sx : fneg x = true) (zy : (FloatKind.f64.format.order y 0 == some .eq) = false) (zx : (FloatKind.f64.format.order x 0 == some .eq) = false) (ix : finf x = false) (iy : finf y = false) (hr : r < 18446744073709551616) (d : Ieee.double.div (rung y) (rung x) = some q) (CT : RowKit.Hid (∀ W : World, Calls Try.prog 23 #[.float .f64 q] W fun e w' => e = .returned (.float .f64 t) ∧ W = w')) (s : Ieee.double.sub 4614256656552045848 t = some r) : Calls Try.prog 29 #[.float .f64 y, .float .f64 x] w fun e w' => e = .returned (.float .f64 (Ieee.double.word (fneg y) (rung r))) ∧ w = w' := by
  have NX := Lib.hid (fun W => isNaN_any x W)
  rw [nx] at NX
  have NY := Lib.hid (fun W => isNaN_any y W)
  rw [ny] at NY
  have CS := Lib.hid (fun W => signbit_any x W hx)
  rw [sx] at CS
  have CP := Lib.hid (fun W => copysign_any r y W hr hy)
  obtain ⟨R, hR⟩ : ∃ R, Ieee.double.word (fneg y) (rung r) = R := ⟨_, rfl⟩
  rw [hR] at CP ⊢
  have JX := Lib.hid (fun W => isInf0_any x W hx)
  rw [ix] at JX
  have JY := Lib.hid (fun W => isInf0_any y W hy)
  rw [iy] at JY
  have CY := Lib.hid (fun W => abs_any y W hy)
  have CX := Lib.hid (fun W => abs_any x W hx)
  obtain ⟨b, hb⟩ : ∃ b, rung x = b := ⟨_, rfl⟩
  obtain ⟨a, ha⟩ : ∃ a, rung y = a := ⟨_, rfl⟩
  rw [hb] at CX d
  rw [ha] at CY d
  have wd := wDiv d
  have CI := Lib.hid (fun W => vpi_any W)
  have ws := wSub s
  clear hy hx nx ny sx hR ix iy hr hb ha d s
  go_enter Try.func29, Try.ntmps29
  go_wp2_with fail
  refine (NX.out _).mono ?_
  rintro e w' ⟨rfl, rfl⟩
  go_wp2_with fail
  refine (NY.out _).mono ?_
  rintro e w' ⟨rfl, rfl⟩
  go_wp2_with fail
  refine (CS.out _).mono ?_
  rintro e w' ⟨rfl, rfl⟩
  go_wp2_with fail
  refine (JX.out _).mono ?_
  rintro e w' ⟨rfl, rfl⟩
  go_wp2_with fail
  refine (JY.out _).mono ?_
  rintro e w' ⟨rfl, rfl⟩
  go_wp2_with fail
  refine (JX.out _).mono ?_
  rintro e w' ⟨rfl, rfl⟩
  go_wp2_with fail
  refine (CY.out _).mono ?_
  rintro e w' ⟨rfl, rfl⟩
  go_wp2_with fail
  refine (CX.out _).mono ?_
  rintro e w' ⟨rfl, rfl⟩
  go_wp2_with fail
  refine (CT.out _).mono ?_
  rintro e w' ⟨rfl, rfl⟩
  go_wp2_with fail
  refine (CI.out _).mono ?_
  rintro e w' ⟨rfl, rfl⟩
  go_wp2_with fail
  refine (CP.out _).mono ?_
  rintro e w' ⟨rfl, rfl⟩
  go_wp2
  go_ret
  exact ⟨rfl, rfl⟩
set_option maxRecDepth 100000 in
set_option maxHeartbeats 1000000 in
theorem vAtan2_y0_f (y x : Nat) (w : World) (hy : y < 18446744073709551616) (hx : x < 18446744073709551616) (nx : fnan x = false) (ny : fnan y = false) (sx : fneg x = false) (zy : (FloatKind.f64.format.order y 0 == some .eq) = true) : Calls Try.prog 29 #[.float .f64 y, .float .f64 x] w fun e w' => e = .returned (.float .f64 (Ieee.double.word (fneg y) (rung 0))) ∧ w = w' := by
  have NX := Lib.hid (fun W => isNaN_any x W)
  rw [nx] at NX
  have NY := Lib.hid (fun W => isNaN_any y W)
  rw [ny] at NY
  have CS := Lib.hid (fun W => signbit_any x W hx)
  rw [sx] at CS
  have CP := Lib.hid (fun W => copysign_any 0 y W (by omega) hy)
  obtain ⟨R, hR⟩ : ∃ R, Ieee.double.word (fneg y) (rung 0) = R := ⟨_, rfl⟩
  rw [hR] at CP ⊢
  clear hy hx nx ny sx hR 
  go_enter Try.func29, Try.ntmps29
  go_wp2_with fail
  refine (NX.out _).mono ?_
  rintro e w' ⟨rfl, rfl⟩
  go_wp2_with fail
  refine (NY.out _).mono ?_
  rintro e w' ⟨rfl, rfl⟩
  go_wp2_with fail
  refine (CS.out _).mono ?_
  rintro e w' ⟨rfl, rfl⟩
  go_wp2_with fail
  refine (CP.out _).mono ?_
  rintro e w' ⟨rfl, rfl⟩
  go_wp2
  go_ret
  exact ⟨rfl, rfl⟩
set_option maxRecDepth 100000 in
set_option maxHeartbeats 1000000 in
theorem vAtan2_x0_f (y x : Nat) (w : World) (hy : y < 18446744073709551616) (hx : x < 18446744073709551616) (nx : fnan x = false) (ny : fnan y = false) (sx : fneg x = false) (zy : (FloatKind.f64.format.order y 0 == some .eq) = false) (zx : (FloatKind.f64.format.order x 0 == some .eq) = true) : Calls Try.prog 29 #[.float .f64 y, .float .f64 x] w fun e w' => e = .returned (.float .f64 (Ieee.double.word (fneg y) (rung 4609753056924675352))) ∧ w = w' := by
  have NX := Lib.hid (fun W => isNaN_any x W)
  rw [nx] at NX
  have NY := Lib.hid (fun W => isNaN_any y W)
  rw [ny] at NY
  have CS := Lib.hid (fun W => signbit_any x W hx)
  rw [sx] at CS
  have CP := Lib.hid (fun W => copysign_any 4609753056924675352 y W (by omega) hy)
  obtain ⟨R, hR⟩ : ∃ R, Ieee.double.word (fneg y) (rung 4609753056924675352) = R := ⟨_, rfl⟩
  rw [hR] at CP ⊢
  have CI2 := Lib.hid (fun W => vpi2_any W)
  clear hy hx nx ny sx hR 
  go_enter Try.func29, Try.ntmps29
  go_wp2_with fail
  refine (NX.out _).mono ?_
  rintro e w' ⟨rfl, rfl⟩
  go_wp2_with fail
  refine (NY.out _).mono ?_
  rintro e w' ⟨rfl, rfl⟩
  go_wp2_with fail
  refine (CS.out _).mono ?_
  rintro e w' ⟨rfl, rfl⟩
  go_wp2_with fail
  refine (CI2.out _).mono ?_
  rintro e w' ⟨rfl, rfl⟩
  go_wp2_with fail
  refine (CP.out _).mono ?_
  rintro e w' ⟨rfl, rfl⟩
  go_wp2
  go_ret
  exact ⟨rfl, rfl⟩
set_option maxRecDepth 100000 in
set_option maxHeartbeats 1000000 in
theorem vAtan2_both_f (y x : Nat) (w : World) (hy : y < 18446744073709551616) (hx : x < 18446744073709551616) (nx : fnan x = false) (ny : fnan y = false) (sx : fneg x = false) (zy : (FloatKind.f64.format.order y 0 == some .eq) = false) (zx : (FloatKind.f64.format.order x 0 == some .eq) = false) (ix : finf x = true) (iy : finf y = true) : Calls Try.prog 29 #[.float .f64 y, .float .f64 x] w fun e w' => e = .returned (.float .f64 (Ieee.double.word (fneg y) (rung 4605249457297304856))) ∧ w = w' := by
  have NX := Lib.hid (fun W => isNaN_any x W)
  rw [nx] at NX
  have NY := Lib.hid (fun W => isNaN_any y W)
  rw [ny] at NY
  have CS := Lib.hid (fun W => signbit_any x W hx)
  rw [sx] at CS
  have CP := Lib.hid (fun W => copysign_any 4605249457297304856 y W (by omega) hy)
  obtain ⟨R, hR⟩ : ∃ R, Ieee.double.word (fneg y) (rung 4605249457297304856) = R := ⟨_, rfl⟩
  rw [hR] at CP ⊢
  have JX := Lib.hid (fun W => isInf0_any x W hx)
  rw [ix] at JX
  have JY := Lib.hid (fun W => isInf0_any y W hy)
  rw [iy] at JY
  have CI4 := Lib.hid (fun W => vpi4_any W)
  clear hy hx nx ny sx hR ix iy
  go_enter Try.func29, Try.ntmps29
  go_wp2_with fail
  refine (NX.out _).mono ?_
  rintro e w' ⟨rfl, rfl⟩
  go_wp2_with fail
  refine (NY.out _).mono ?_
  rintro e w' ⟨rfl, rfl⟩
  go_wp2_with fail
  refine (CS.out _).mono ?_
  rintro e w' ⟨rfl, rfl⟩
  go_wp2_with fail
  refine (JX.out _).mono ?_
  rintro e w' ⟨rfl, rfl⟩
  go_wp2_with fail
  refine (JY.out _).mono ?_
  rintro e w' ⟨rfl, rfl⟩
  go_wp2_with fail
  refine (CI4.out _).mono ?_
  rintro e w' ⟨rfl, rfl⟩
  go_wp2_with fail
  refine (CP.out _).mono ?_
  rintro e w' ⟨rfl, rfl⟩
  go_wp2
  go_ret
  exact ⟨rfl, rfl⟩
set_option maxRecDepth 100000 in
set_option maxHeartbeats 1000000 in
theorem vAtan2_yinf_f (y x : Nat) (w : World) (hy : y < 18446744073709551616) (hx : x < 18446744073709551616) (nx : fnan x = false) (ny : fnan y = false) (sx : fneg x = false) (zy : (FloatKind.f64.format.order y 0 == some .eq) = false) (zx : (FloatKind.f64.format.order x 0 == some .eq) = false) (ix : finf x = false) (iy : finf y = true) : Calls Try.prog 29 #[.float .f64 y, .float .f64 x] w fun e w' => e = .returned (.float .f64 (Ieee.double.word (fneg y) (rung 4609753056924675352))) ∧ w = w' := by
  have NX := Lib.hid (fun W => isNaN_any x W)
  rw [nx] at NX
  have NY := Lib.hid (fun W => isNaN_any y W)
  rw [ny] at NY
  have CS := Lib.hid (fun W => signbit_any x W hx)
  rw [sx] at CS
  have CP := Lib.hid (fun W => copysign_any 4609753056924675352 y W (by omega) hy)
  obtain ⟨R, hR⟩ : ∃ R, Ieee.double.word (fneg y) (rung 4609753056924675352) = R := ⟨_, rfl⟩
  rw [hR] at CP ⊢
  have JX := Lib.hid (fun W => isInf0_any x W hx)
  rw [ix] at JX
  have JY := Lib.hid (fun W => isInf0_any y W hy)
  rw [iy] at JY
  have CI2 := Lib.hid (fun W => vpi2_any W)
  clear hy hx nx ny sx hR ix iy
  go_enter Try.func29, Try.ntmps29
  go_wp2_with fail
  refine (NX.out _).mono ?_
  rintro e w' ⟨rfl, rfl⟩
  go_wp2_with fail
  refine (NY.out _).mono ?_
  rintro e w' ⟨rfl, rfl⟩
  go_wp2_with fail
  refine (CS.out _).mono ?_
  rintro e w' ⟨rfl, rfl⟩
  go_wp2_with fail
  refine (JX.out _).mono ?_
  rintro e w' ⟨rfl, rfl⟩
  go_wp2_with fail
  refine (JY.out _).mono ?_
  rintro e w' ⟨rfl, rfl⟩
  go_wp2_with fail
  refine (CI2.out _).mono ?_
  rintro e w' ⟨rfl, rfl⟩
  go_wp2_with fail
  refine (CP.out _).mono ?_
  rintro e w' ⟨rfl, rfl⟩
  go_wp2
  go_ret
  exact ⟨rfl, rfl⟩
set_option maxRecDepth 100000 in
set_option maxHeartbeats 1000000 in
theorem vAtan2_xinf_f (y x : Nat) (w : World) (hy : y < 18446744073709551616) (hx : x < 18446744073709551616) (nx : fnan x = false) (ny : fnan y = false) (sx : fneg x = false) (zy : (FloatKind.f64.format.order y 0 == some .eq) = false) (zx : (FloatKind.f64.format.order x 0 == some .eq) = false) (ix : finf x = true) (iy : finf y = false) : Calls Try.prog 29 #[.float .f64 y, .float .f64 x] w fun e w' => e = .returned (.float .f64 (Ieee.double.word (fneg y) (rung 0))) ∧ w = w' := by
  have NX := Lib.hid (fun W => isNaN_any x W)
  rw [nx] at NX
  have NY := Lib.hid (fun W => isNaN_any y W)
  rw [ny] at NY
  have CS := Lib.hid (fun W => signbit_any x W hx)
  rw [sx] at CS
  have CP := Lib.hid (fun W => copysign_any 0 y W (by omega) hy)
  obtain ⟨R, hR⟩ : ∃ R, Ieee.double.word (fneg y) (rung 0) = R := ⟨_, rfl⟩
  rw [hR] at CP ⊢
  have JX := Lib.hid (fun W => isInf0_any x W hx)
  rw [ix] at JX
  have JY := Lib.hid (fun W => isInf0_any y W hy)
  rw [iy] at JY
  clear hy hx nx ny sx hR ix iy
  go_enter Try.func29, Try.ntmps29
  go_wp2_with fail
  refine (NX.out _).mono ?_
  rintro e w' ⟨rfl, rfl⟩
  go_wp2_with fail
  refine (NY.out _).mono ?_
  rintro e w' ⟨rfl, rfl⟩
  go_wp2_with fail
  refine (CS.out _).mono ?_
  rintro e w' ⟨rfl, rfl⟩
  go_wp2_with fail
  refine (JX.out _).mono ?_
  rintro e w' ⟨rfl, rfl⟩
  go_wp2_with fail
  refine (JY.out _).mono ?_
  rintro e w' ⟨rfl, rfl⟩
  go_wp2_with fail
  refine (JY.out _).mono ?_
  rintro e w' ⟨rfl, rfl⟩
  go_wp2_with fail
  refine (JX.out _).mono ?_
  rintro e w' ⟨rfl, rfl⟩
  go_wp2_with fail
  refine (CP.out _).mono ?_
  rintro e w' ⟨rfl, rfl⟩
  go_wp2
  go_ret
  exact ⟨rfl, rfl⟩
set_option maxRecDepth 100000 in
set_option maxHeartbeats 1000000 in
theorem vAtan2_fin_f (y x q r : Nat) (w : World) (hy : y < 18446744073709551616) (hx : x < 18446744073709551616) (nx : fnan x = false) (ny : fnan y = false) (sx : fneg x = false) (zy : (FloatKind.f64.format.order y 0 == some .eq) = false) (zx : (FloatKind.f64.format.order x 0 == some .eq) = false) (ix : finf x = false) (iy : finf y = false) (hr : r < 18446744073709551616) (d : Ieee.double.div (rung y) (rung x) = some q) (CT : RowKit.Hid (∀ W : World, Calls Try.prog 23 #[.float .f64 q] W fun e w' => e = .returned (.float .f64 r) ∧ W = w')) : Calls Try.prog 29 #[.float .f64 y, .float .f64 x] w fun e w' => e = .returned (.float .f64 (Ieee.double.word (fneg y) (rung r))) ∧ w = w' := by
  have NX := Lib.hid (fun W => isNaN_any x W)
  rw [nx] at NX
  have NY := Lib.hid (fun W => isNaN_any y W)
  rw [ny] at NY
  have CS := Lib.hid (fun W => signbit_any x W hx)
  rw [sx] at CS
  have CP := Lib.hid (fun W => copysign_any r y W hr hy)
  obtain ⟨R, hR⟩ : ∃ R, Ieee.double.word (fneg y) (rung r) = R := ⟨_, rfl⟩
  rw [hR] at CP ⊢
  have JX := Lib.hid (fun W => isInf0_any x W hx)
  rw [ix] at JX
  have JY := Lib.hid (fun W => isInf0_any y W hy)
  rw [iy] at JY
  have CY := Lib.hid (fun W => abs_any y W hy)
  have CX := Lib.hid (fun W => abs_any x W hx)
  obtain ⟨b, hb⟩ : ∃ b, rung x = b := ⟨_, rfl⟩
  obtain ⟨a, ha⟩ : ∃ a, rung y = a := ⟨_, rfl⟩
  rw [hb] at CX d
  rw [ha] at CY d
  have wd := wDiv d
  clear hy hx nx ny sx hR ix iy hr hb ha d
  go_enter Try.func29, Try.ntmps29
  go_wp2_with fail
  refine (NX.out _).mono ?_
  rintro e w' ⟨rfl, rfl⟩
  go_wp2_with fail
  refine (NY.out _).mono ?_
  rintro e w' ⟨rfl, rfl⟩
  go_wp2_with fail
  refine (CS.out _).mono ?_
  rintro e w' ⟨rfl, rfl⟩
  go_wp2_with fail
  refine (JX.out _).mono ?_
  rintro e w' ⟨rfl, rfl⟩
  go_wp2_with fail
  refine (JY.out _).mono ?_
  rintro e w' ⟨rfl, rfl⟩
  go_wp2_with fail
  refine (JX.out _).mono ?_
  rintro e w' ⟨rfl, rfl⟩
  go_wp2_with fail
  refine (CY.out _).mono ?_
  rintro e w' ⟨rfl, rfl⟩
  go_wp2_with fail
  refine (CX.out _).mono ?_
  rintro e w' ⟨rfl, rfl⟩
  go_wp2_with fail
  refine (CT.out _).mono ?_
  rintro e w' ⟨rfl, rfl⟩
  go_wp2_with fail
  refine (CP.out _).mono ?_
  rintro e w' ⟨rfl, rfl⟩
  go_wp2
  go_ret
  exact ⟨rfl, rfl⟩
end Go.Proofs.Ytbinpcoaghpcdaa
