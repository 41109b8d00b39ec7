/-
  Sin, Cos and Tan of the program and of the reference; the law MathfnAngles.
-/
import Derived.Test.YtbinpcoaghpcdaaAo
namespace Go.Proofs.Ytbinpcoaghpcdaa
open Go.RowKit
set_option maxRecDepth 100000 in
set_option maxHeartbeats 1000000 in
theorem fSin_0 (x S C : Nat) (w : World) (hx : Fin64 x) (h0 : (FloatKind.f64.format.order x 0 == some .eq) = false) (C0 : RowKit.Hid (∀ w : World, Calls Try.prog 47 #[.float .f64 x] w fun e w' => e = .returned (.agg #[.int .i64 0, .float .f64 S, .float .f64 C]) ∧ Below w.heap.size w w')) : Calls Try.prog 16 #[.float .f64 x] w fun e w' => e = .returned (.float .f64 S) ∧ Below w.heap.size w w' := by
  have CX := Lib.hid (fun W => fangled_yes x W hx)
  have n1 : ∀ W : World, (Op.unary UnOp.neg (.float .f64 S)).run Try.prog W = .ok (.float .f64 (Op.negFloat .f64 S)) W := fun W => rfl
  have n2 : ∀ W : World, (Op.unary UnOp.neg (.float .f64 C)).run Try.prog W = .ok (.float .f64 (Op.negFloat .f64 C)) W := fun W => rfl
  obtain ⟨S', hS'⟩ : ∃ S', Op.negFloat .f64 S = S' := ⟨_, rfl⟩
  obtain ⟨C', hC'⟩ : ∃ C', Op.negFloat .f64 C = C' := ⟨_, rfl⟩
  rw [hS'] at n1
  rw [hC'] at n2
  skip
  skip
  have hix : ∀ W : World, (Instr.index 43 (.agg #[.float .f64 S, .float .f64 C, .float .f64 S', .float .f64 C']) (.int .i64 0)).run Try.prog W = .ok (.float .f64 S) W := fun W => rfl
  clear hx hS' hC'
  go_enter Try.func16, Try.ntmps16
  go_wp2_with fail
  refine (CX.out _).mono ?_
  rintro e w' ⟨rfl, rfl⟩
  go_wp2_with fail
  refine (C0.out _).mono ?_
  rintro e w1 ⟨rfl, b1⟩
  have B1 := Lib.hid (b1.alloc b1.size (.cells #[.int .i64 0, .float .f64 S, .float .f64 C] 41))
  go_wp2_with (first | (refine wpList_store_row rfl 41 _ _ rfl w1.heap.size #[.int .i64 0, .float .f64 S, .float .f64 C] rfl rfl 41 #[.int .i64 0, .float .f64 0, .float .f64 0] (heap_alloc_last w1 _) (by first | kernel_rfl | rfl) rfl (by first | kernel_rfl | rfl) ?_; rw [World.setRow_alloc_new]))
  go_ret
  exact ⟨rfl, B1.out⟩
set_option maxRecDepth 100000 in
set_option maxHeartbeats 1000000 in
theorem vSin_0 (x S C : Nat) (w : World) (hx : Fin64 x) (h0 : (FloatKind.f64.format.order x 0 == some .eq) = false) (C0 : RowKit.Hid (∀ w : World, Calls Try.prog 49 #[.float .f64 x] w fun e w' => e = .returned (.tuple #[.float .f64 S, .float .f64 C, .int .i64 0]) ∧ Below w.heap.size w w')) : Calls Try.prog 17 #[.float .f64 x] w fun e w' => e = .returned (.float .f64 S) ∧ Below w.heap.size w w' := by
  have CX := Lib.hid (fun W => vfinite_yes x W hx)
  have n1 : ∀ W : World, (Op.unary UnOp.neg (.float .f64 S)).run Try.prog W = .ok (.float .f64 (Op.negFloat .f64 S)) W := fun W => rfl
  have n2 : ∀ W : World, (Op.unary UnOp.neg (.float .f64 C)).run Try.prog W = .ok (.float .f64 (Op.negFloat .f64 C)) W := fun W => rfl
  obtain ⟨S', hS'⟩ : ∃ S', Op.negFloat .f64 S = S' := ⟨_, rfl⟩
  obtain ⟨C', hC'⟩ : ∃ C', Op.negFloat .f64 C = C' := ⟨_, rfl⟩
  rw [hS'] at n1
  rw [hC'] at n2
  skip
  skip
  clear hx hS' hC'
  go_enter Try.func17, Try.ntmps17
  go_wp2_with fail
  refine (CX.out _).mono ?_
  rintro e w' ⟨rfl, rfl⟩
  go_wp2_with fail
  refine (C0.out _).mono ?_
  rintro e w1 ⟨rfl, b1⟩
  go_wp2
  go_ret
  exact ⟨rfl, b1⟩
set_option maxRecDepth 100000 in
set_option maxHeartbeats 1000000 in
theorem fSin_1 (x S C : Nat) (w : World) (hx : Fin64 x) (h0 : (FloatKind.f64.format.order x 0 == some .eq) = false) (C0 : RowKit.Hid (∀ w : World, Calls Try.prog 47 #[.float .f64 x] w fun e w' => e = .returned (.agg #[.int .i64 1, .float .f64 S, .float .f64 C]) ∧ Below w.heap.size w w')) : Calls Try.prog 16 #[.float .f64 x] w fun e w' => e = .returned (.float .f64 C) ∧ Below w.heap.size w w' := by
  have CX := Lib.hid (fun W => fangled_yes x W hx)
  have n1 : ∀ W : World, (Op.unary UnOp.neg (.float .f64 S)).run Try.prog W = .ok (.float .f64 (Op.negFloat .f64 S)) W := fun W => rfl
  have n2 : ∀ W : World, (Op.unary UnOp.neg (.float .f64 C)).run Try.prog W = .ok (.float .f64 (Op.negFloat .f64 C)) W := fun W => rfl
  obtain ⟨S', hS'⟩ : ∃ S', Op.negFloat .f64 S = S' := ⟨_, rfl⟩
  obtain ⟨C', hC'⟩ : ∃ C', Op.negFloat .f64 C = C' := ⟨_, rfl⟩
  rw [hS'] at n1
  rw [hC'] at n2
  skip
  skip
  have hix : ∀ W : World, (Instr.index 43 (.agg #[.float .f64 S, .float .f64 C, .float .f64 S', .float .f64 C']) (.int .i64 1)).run Try.prog W = .ok (.float .f64 C) W := fun W => rfl
  clear hx hS' hC'
  go_enter Try.func16, Try.ntmps16
  go_wp2_with fail
  refine (CX.out _).mono ?_
  rintro e w' ⟨rfl, rfl⟩
  go_wp2_with fail
  refine (C0.out _).mono ?_
  rintro e w1 ⟨rfl, b1⟩
  have B1 := Lib.hid (b1.alloc b1.size (.cells #[.int .i64 1, .float .f64 S, .float .f64 C] 41))
  go_wp2_with (first | (refine wpList_store_row rfl 41 _ _ rfl w1.heap.size #[.int .i64 1, .float .f64 S, .float .f64 C] rfl rfl 41 #[.int .i64 0, .float .f64 0, .float .f64 0] (heap_alloc_last w1 _) (by first | kernel_rfl | rfl) rfl (by first | kernel_rfl | rfl) ?_; rw [World.setRow_alloc_new]))
  go_ret
  exact ⟨rfl, B1.out⟩
set_option maxRecDepth 100000 in
set_option maxHeartbeats 1000000 in
theorem vSin_1 (x S C : Nat) (w : World) (hx : Fin64 x) (h0 : (FloatKind.f64.format.order x 0 == some .eq) = false) (C0 : RowKit.Hid (∀ w : World, Calls Try.prog 49 #[.float .f64 x] w fun e w' => e = .returned (.tuple #[.float .f64 S, .float .f64 C, .int .i64 1]) ∧ Below w.heap.size w w')) : Calls Try.prog 17 #[.float .f64 x] w fun e w' => e = .returned (.float .f64 C) ∧ Below w.heap.size w w' := by
  have CX := Lib.hid (fun W => vfinite_yes x W hx)
  have n1 : ∀ W : World, (Op.unary UnOp.neg (.float .f64 S)).run Try.prog W = .ok (.float .f64 (Op.negFloat .f64 S)) W := fun W => rfl
  have n2 : ∀ W : World, (Op.unary UnOp.neg (.float .f64 C)).run Try.prog W = .ok (.float .f64 (Op.negFloat .f64 C)) W := fun W => rfl
  obtain ⟨S', hS'⟩ : ∃ S', Op.negFloat .f64 S = S' := ⟨_, rfl⟩
  obtain ⟨C', hC'⟩ : ∃ C', Op.negFloat .f64 C = C' := ⟨_, rfl⟩
  rw [hS'] at n1
  rw [hC'] at n2
  skip
  skip
  clear hx hS' hC'
  go_enter Try.func17, Try.ntmps17
  go_wp2_with fail
  refine (CX.out _).mono ?_
  rintro e w' ⟨rfl, rfl⟩
  go_wp2_with fail
  refine (C0.out _).mono ?_
  rintro e w1 ⟨rfl, b1⟩
  go_wp2
  go_ret
  exact ⟨rfl, b1⟩
set_option maxRecDepth 100000 in
set_option maxHeartbeats 1000000 in
theorem fSin_2 (x S C : Nat) (w : World) (hx : Fin64 x) (h0 : (FloatKind.f64.format.order x 0 == some .eq) = false) (C0 : RowKit.Hid (∀ w : World, Calls Try.prog 47 #[.float .f64 x] w fun e w' => e = .returned (.agg #[.int .i64 2, .float .f64 S, .float .f64 C]) ∧ Below w.heap.size w w')) : Calls Try.prog 16 #[.float .f64 x] w fun e w' => e = .returned (.float .f64 (Op.negFloat .f64 S)) ∧ Below w.heap.size w w' := by
  have CX := Lib.hid (fun W => fangled_yes x W hx)
  have n1 : ∀ W : World, (Op.unary UnOp.neg (.float .f64 S)).run Try.prog W = .ok (.float .f64 (Op.negFloat .f64 S)) W := fun W => rfl
  have n2 : ∀ W : World, (Op.unary UnOp.neg (.float .f64 C)).run Try.prog W = .ok (.float .f64 (Op.negFloat .f64 C)) W := fun W => rfl
  obtain ⟨S', hS'⟩ : ∃ S', Op.negFloat .f64 S = S' := ⟨_, rfl⟩
  obtain ⟨C', hC'⟩ : ∃ C', Op.negFloat .f64 C = C' := ⟨_, rfl⟩
  rw [hS'] at n1
  rw [hC'] at n2
  rw [hS']
  skip
  have hix : ∀ W : World, (Instr.index 43 (.agg #[.float .f64 S, .float .f64 C, .float .f64 S', .float .f64 C']) (.int .i64 2)).run Try.prog W = .ok (.float .f64 S') W := fun W => rfl
  clear hx hS' hC'
  go_enter Try.func16, Try.ntmps16
  go_wp2_with fail
  refine (CX.out _).mono ?_
  rintro e w' ⟨rfl, rfl⟩
  go_wp2_with fail
  refine (C0.out _).mono ?_
  rintro e w1 ⟨rfl, b1⟩
  have B1 := Lib.hid (b1.alloc b1.size (.cells #[.int .i64 2, .float .f64 S, .float .f64 C] 41))
  go_wp2_with (first | (refine wpList_store_row rfl 41 _ _ rfl w1.heap.size #[.int .i64 2, .float .f64 S, .float .f64 C] rfl rfl 41 #[.int .i64 0, .float .f64 0, .float .f64 0] (heap_alloc_last w1 _) (by first | kernel_rfl | rfl) rfl (by first | kernel_rfl | rfl) ?_; rw [World.setRow_alloc_new]))
  go_ret
  exact ⟨rfl, B1.out⟩
set_option maxRecDepth 100000 in
set_option maxHeartbeats 1000000 in
theorem vSin_2 (x S C : Nat) (w : World) (hx : Fin64 x) (h0 : (FloatKind.f64.format.order x 0 == some .eq) = false) (C0 : RowKit.Hid (∀ w : World, Calls Try.prog 49 #[.float .f64 x] w fun e w' => e = .returned (.tuple #[.float .f64 S, .float .f64 C, .int .i64 2]) ∧ Below w.heap.size w w')) : Calls Try.prog 17 #[.float .f64 x] w fun e w' => e = .returned (.float .f64 (Op.negFloat .f64 S)) ∧ Below w.heap.size w w' := by
  have CX := Lib.hid (fun W => vfinite_yes x W hx)
  have n1 : ∀ W : World, (Op.unary UnOp.neg (.float .f64 S)).run Try.prog W = .ok (.float .f64 (Op.negFloat .f64 S)) W := fun W => rfl
  have n2 : ∀ W : World, (Op.unary UnOp.neg (.float .f64 C)).run Try.prog W = .ok (.float .f64 (Op.negFloat .f64 C)) W := fun W => rfl
  obtain ⟨S', hS'⟩ : ∃ S', Op.negFloat .f64 S = S' := ⟨_, rfl⟩
  obtain ⟨C', hC'⟩ : ∃ C', Op.negFloat .f64 C = C' := ⟨_, rfl⟩
  rw [hS'] at n1
  rw [hC'] at n2
  rw [hS']
  skip
  clear hx hS' hC'
  go_enter Try.func17, Try.ntmps17
  go_wp2_with fail
  refine (CX.out _).mono ?_
  rintro e w' ⟨rfl, rfl⟩
  go_wp2_with fail
  refine (C0.out _).mono ?_
  rintro e w1 ⟨rfl, b1⟩
  go_wp2
  go_ret
  exact ⟨rfl, b1⟩
set_option maxRecDepth 100000 in
set_option maxHeartbeats 1000000 in
theorem fSin_3 (x S C : Nat) (w : World) (hx : Fin64 x) (h0 : (FloatKind.f64.format.order x 0 == some .eq) = false) (C0 : RowKit.Hid (∀ w : World, Calls Try.prog 47 #[.float .f64 x] w fun e w' => e = .returned (.agg #[.int .i64 3, .float .f64 S, .float .f64 C]) ∧ Below w.heap.size w w')) : Calls Try.prog 16 #[.float .f64 x] w fun e w' => e = .returned (.float .f64 (Op.negFloat .f64 C)) ∧ Below w.heap.size w w' := by
  have CX := Lib.hid (fun W => fangled_yes x W hx)
  have n1 : ∀ W : World, (Op.unary UnOp.neg (.float .f64 S)).run Try.prog W = .ok (.float .f64 (Op.negFloat .f64 S)) W := fun W => rfl
  have n2 : ∀ W : World, (Op.unary UnOp.neg (.float .f64 C)).run Try.prog W = .ok (.float .f64 (Op.negFloat .f64 C)) W := fun W => rfl
  obtain ⟨S', hS'⟩ : ∃ S', Op.negFloat .f64 S = S' := ⟨_, rfl⟩
  obtain ⟨C', hC'⟩ : ∃ C', Op.negFloat .f64 C = C' := ⟨_, rfl⟩
  rw [hS'] at n1
  rw [hC'] at n2
  rw [hC']
  skip
  have hix : ∀ W : World, (Instr.index 43 (.agg #[.float .f64 S, .float .f64 C, .float .f64 S', .float .f64 C']) (.int .i64 3)).run Try.prog W = .ok (.float .f64 C') W := fun W => rfl
  clear hx hS' hC'
  go_enter Try.func16, Try.ntmps16
  go_wp2_with fail
  refine (CX.out _).mono ?_
  rintro e w' ⟨rfl, rfl⟩
  go_wp2_with fail
  refine (C0.out _).mono ?_
  rintro e w1 ⟨rfl, b1⟩
  have B1 := Lib.hid (b1.alloc b1.size (.cells #[.int .i64 3, .float .f64 S, .float .f64 C] 41))
  go_wp2_with (first | (refine wpList_store_row rfl 41 _ _ rfl w1.heap.size #[.int .i64 3, .float .f64 S, .float .f64 C] rfl rfl 41 #[.int .i64 0, .float .f64 0, .float .f64 0] (heap_alloc_last w1 _) (by first | kernel_rfl | rfl) rfl (by first | kernel_rfl | rfl) ?_; rw [World.setRow_alloc_new]))
  go_ret
  exact ⟨rfl, B1.out⟩
set_option maxRecDepth 100000 in
set_option maxHeartbeats 1000000 in
theorem vSin_3 (x S C : Nat) (w : World) (hx : Fin64 x) (h0 : (FloatKind.f64.format.order x 0 == some .eq) = false) (C0 : RowKit.Hid (∀ w : World, Calls Try.prog 49 #[.float .f64 x] w fun e w' => e = .returned (.tuple #[.float .f64 S, .float .f64 C, .int .i64 3]) ∧ Below w.heap.size w w')) : Calls Try.prog 17 #[.float .f64 x] w fun e w' => e = .returned (.float .f64 (Op.negFloat .f64 C)) ∧ Below w.heap.size w w' := by
  have CX := Lib.hid (fun W => vfinite_yes x W hx)
  have n1 : ∀ W : World, (Op.unary UnOp.neg (.float .f64 S)).run Try.prog W = .ok (.float .f64 (Op.negFloat .f64 S)) W := fun W => rfl
  have n2 : ∀ W : World, (Op.unary UnOp.neg (.float .f64 C)).run Try.prog W = .ok (.float .f64 (Op.negFloat .f64 C)) W := fun W => rfl
  obtain ⟨S', hS'⟩ : ∃ S', Op.negFloat .f64 S = S' := ⟨_, rfl⟩
  obtain ⟨C', hC'⟩ : ∃ C', Op.negFloat .f64 C = C' := ⟨_, rfl⟩
  rw [hS'] at n1
  rw [hC'] at n2
  rw [hC']
  skip
  clear hx hS' hC'
  go_enter Try.func17, Try.ntmps17
  go_wp2_with fail
  refine (CX.out _).mono ?_
  rintro e w' ⟨rfl, rfl⟩
  go_wp2_with fail
  refine (C0.out _).mono ?_
  rintro e w1 ⟨rfl, b1⟩
  go_wp2
  go_ret
  exact ⟨rfl, b1⟩
theorem fSin_bad (x : Nat) (w : World) (hx : x < 18446744073709551616) (h : ¬ rung x < 9218868437227405312) : Calls Try.prog 16 #[.float .f64 x] w fun e w' => e = .returned (.float .f64 9221120237041090560) ∧ Below w.heap.size w w' := by
  have CX := Lib.hid (fun W => fangled_no x W hx h)
  have CQ := Lib.hid (fun W => const_any 9221120237041090560 W)
  have B := Below.refl w.heap.size w
  clear hx h
  go_enter Try.func16, Try.ntmps16
  go_wp2_with fail
  refine (CX.out _).mono ?_
  rintro e w' ⟨rfl, rfl⟩
  go_wp2_with fail
  refine (CQ.out _).mono ?_
  rintro e w' ⟨rfl, rfl⟩
  go_wp2
  go_ret
  exact ⟨rfl, B⟩
theorem fSin_zero (x : Nat) (w : World) (hx : Fin64 x) (h0 : (FloatKind.f64.format.order x 0 == some .eq) = true) : Calls Try.prog 16 #[.float .f64 x] w fun e w' => e = .returned (.float .f64 x) ∧ Below w.heap.size w w' := by
  have CX := Lib.hid (fun W => fangled_yes x W hx)
  have B := Below.refl w.heap.size w
  clear hx
  go_enter Try.func16, Try.ntmps16
  go_wp2_with fail
  refine (CX.out _).mono ?_
  rintro e w' ⟨rfl, rfl⟩
  go_wp2
  go_ret
  exact ⟨rfl, B⟩
theorem vSin_bad (x : Nat) (w : World) (hx : x < 18446744073709551616) (h : ¬ rung x < 9218868437227405312) : Calls Try.prog 17 #[.float .f64 x] w fun e w' => e = .returned (.float .f64 9221120237041090560) ∧ Below w.heap.size w w' := by
  have CX := Lib.hid (fun W => vfinite_no x W hx h)
  have CQ := Lib.hid (fun W => vnan_any W)
  have B := Below.refl w.heap.size w
  clear hx h
  go_enter Try.func17, Try.ntmps17
  go_wp2_with fail
  refine (CX.out _).mono ?_
  rintro e w' ⟨rfl, rfl⟩
  go_wp2_with fail
  refine (CQ.out _).mono ?_
  rintro e w' ⟨rfl, rfl⟩
  go_wp2
  go_ret
  exact ⟨rfl, B⟩
theorem vSin_zero (x : Nat) (w : World) (hx : Fin64 x) (h0 : (FloatKind.f64.format.order x 0 == some .eq) = true) : Calls Try.prog 17 #[.float .f64 x] w fun e w' => e = .returned (.float .f64 x) ∧ Below w.heap.size w w' := by
  have CX := Lib.hid (fun W => vfinite_yes x W hx)
  have B := Below.refl w.heap.size w
  clear hx
  go_enter Try.func17, Try.ntmps17
  go_wp2_with fail
  refine (CX.out _).mono ?_
  rintro e w' ⟨rfl, rfl⟩
  go_wp2
  go_ret
  exact ⟨rfl, B⟩
set_option maxRecDepth 100000 in
set_option maxHeartbeats 1000000 in
theorem fCos_0 (x S C : Nat) (w : World) (hx : Fin64 x) (C0 : RowKit.Hid (∀ w : World, Calls Try.prog 47 #[.float .f64 x] w fun e w' => e = .returned (.agg #[.int .i64 0, .float .f64 S, .float .f64 C]) ∧ Below w.heap.size w w')) : Calls Try.prog 18 #[.float .f64 x] w fun e w' => e = .returned (.float .f64 C) ∧ Below w.heap.size w w' := by
  have CX := Lib.hid (fun W => fangled_yes x W hx)
  have n1 : ∀ W : World, (Op.unary UnOp.neg (.float .f64 S)).run Try.prog W = .ok (.float .f64 (Op.negFloat .f64 S)) W := fun W => rfl
  have n2 : ∀ W : World, (Op.unary UnOp.neg (.float .f64 C)).run Try.prog W = .ok (.float .f64 (Op.negFloat .f64 C)) W := fun W => rfl
  obtain ⟨S', hS'⟩ : ∃ S', Op.negFloat .f64 S = S' := ⟨_, rfl⟩
  obtain ⟨C', hC'⟩ : ∃ C', Op.negFloat .f64 C = C' := ⟨_, rfl⟩
  rw [hS'] at n1
  rw [hC'] at n2
  skip
  skip
  have hix : ∀ W : World, (Instr.index 43 (.agg #[.float .f64 C, .float .f64 S', .float .f64 C', .float .f64 S]) (.int .i64 0)).run Try.prog W = .ok (.float .f64 C) W := fun W => rfl
  clear hx hS' hC'
  go_enter Try.func18, Try.ntmps18
  go_wp2_with fail
  refine (CX.out _).mono ?_
  rintro e w' ⟨rfl, rfl⟩
  go_wp2_with fail
  refine (C0.out _).mono ?_
  rintro e w1 ⟨rfl, b1⟩
  have B1 := Lib.hid (b1.alloc b1.size (.cells #[.int .i64 0, .float .f64 S, .float .f64 C] 41))
  go_wp2_with (first | (refine wpList_store_row rfl 41 _ _ rfl w1.heap.size #[.int .i64 0, .float .f64 S, .float .f64 C] rfl rfl 41 #[.int .i64 0, .float .f64 0, .float .f64 0] (heap_alloc_last w1 _) (by first | kernel_rfl | rfl) rfl (by first | kernel_rfl | rfl) ?_; rw [World.setRow_alloc_new]))
  go_ret
  exact ⟨rfl, B1.out⟩
set_option maxRecDepth 100000 in
set_option maxHeartbeats 1000000 in
theorem vCos_0 (x S C : Nat) (w : World) (hx : Fin64 x) (C0 : RowKit.Hid (∀ w : World, Calls Try.prog 49 #[.float .f64 x] w fun e w' => e = .returned (.tuple #[.float .f64 S, .float .f64 C, .int .i64 0]) ∧ Below w.heap.size w w')) : Calls Try.prog 19 #[.float .f64 x] w fun e w' => e = .returned (.float .f64 C) ∧ Below w.heap.size w w' := by
  have CX := Lib.hid (fun W => vfinite_yes x W hx)
  have n1 : ∀ W : World, (Op.unary UnOp.neg (.float .f64 S)).run Try.prog W = .ok (.float .f64 (Op.negFloat .f64 S)) W := fun W => rfl
  have n2 : ∀ W : World, (Op.unary UnOp.neg (.float .f64 C)).run Try.prog W = .ok (.float .f64 (Op.negFloat .f64 C)) W := fun W => rfl
  obtain ⟨S', hS'⟩ : ∃ S', Op.negFloat .f64 S = S' := ⟨_, rfl⟩
  obtain ⟨C', hC'⟩ : ∃ C', Op.negFloat .f64 C = C' := ⟨_, rfl⟩
  rw [hS'] at n1
  rw [hC'] at n2
  skip
  skip
  clear hx hS' hC'
  go_enter Try.func19, Try.ntmps19
  go_wp2_with fail
  refine (CX.out _).mono ?_
  rintro e w' ⟨rfl, rfl⟩
  go_wp2_with fail
  refine (C0.out _).mono ?_
  rintro e w1 ⟨rfl, b1⟩
  go_wp2
  go_ret
  exact ⟨rfl, b1⟩
set_option maxRecDepth 100000 in
set_option maxHeartbeats 1000000 in
theorem fCos_1 (x S C : Nat) (w : World) (hx : Fin64 x) (C0 : RowKit.Hid (∀ w : World, Calls Try.prog 47 #[.float .f64 x] w fun e w' => e = .returned (.agg #[.int .i64 1, .float .f64 S, .float .f64 C]) ∧ Below w.heap.size w w')) : Calls Try.prog 18 #[.float .f64 x] w fun e w' => e = .returned (.float .f64 (Op.negFloat .f64 S)) ∧ Below w.heap.size w w' := by
  have CX := Lib.hid (fun W => fangled_yes x W hx)
  have n1 : ∀ W : World, (Op.unary UnOp.neg (.float .f64 S)).run Try.prog W = .ok (.float .f64 (Op.negFloat .f64 S)) W := fun W => rfl
  have n2 : ∀ W : World, (Op.unary UnOp.neg (.float .f64 C)).run Try.prog W = .ok (.float .f64 (Op.negFloat .f64 C)) W := fun W => rfl
  obtain ⟨S', hS'⟩ : ∃ S', Op.negFloat .f64 S = S' := ⟨_, rfl⟩
  obtain ⟨C', hC'⟩ : ∃ C', Op.negFloat .f64 C = C' := ⟨_, rfl⟩
  rw [hS'] at n1
  rw [hC'] at n2
  rw [hS']
  skip
  have hix : ∀ W : World, (Instr.index 43 (.agg #[.float .f64 C, .float .f64 S', .float .f64 C', .float .f64 S]) (.int .i64 1)).run Try.prog W = .ok (.float .f64 S') W := fun W => rfl
  clear hx hS' hC'
  go_enter Try.func18, Try.ntmps18
  go_wp2_with fail
  refine (CX.out _).mono ?_
  rintro e w' ⟨rfl, rfl⟩
  go_wp2_with fail
  refine (C0.out _).mono ?_
  rintro e w1 ⟨rfl, b1⟩
  have B1 := Lib.hid (b1.alloc b1.size (.cells #[.int .i64 1, .float .f64 S, .float .f64 C] 41))
  go_wp2_with (first | (refine wpList_store_row rfl 41 _ _ rfl w1.heap.size #[.int .i64 1, .float .f64 S, .float .f64 C] rfl rfl 41 #[.int .i64 0, .float .f64 0, .float .f64 0] (heap_alloc_last w1 _) (by first | kernel_rfl | rfl) rfl (by first | kernel_rfl | rfl) ?_; rw [World.setRow_alloc_new]))
  go_ret
  exact ⟨rfl, B1.out⟩
set_option maxRecDepth 100000 in
set_option maxHeartbeats 1000000 in
theorem vCos_1 (x S C : Nat) (w : World) (hx : Fin64 x) (C0 : RowKit.Hid (∀ w : World, Calls Try.prog 49 #[.float .f64 x] w fun e w' => e = .returned (.tuple #[.float .f64 S, .float .f64 C, .int .i64 1]) ∧ Below w.heap.size w w')) : Calls Try.prog 19 #[.float .f64 x] w fun e w' => e = .returned (.float .f64 (Op.negFloat .f64 S)) ∧ Below w.heap.size w w' := by
  have CX := Lib.hid (fun W => vfinite_yes x W hx)
  have n1 : ∀ W : World, (Op.unary UnOp.neg (.float .f64 S)).run Try.prog W = .ok (.float .f64 (Op.negFloat .f64 S)) W := fun W => rfl
  have n2 : ∀ W : World, (Op.unary UnOp.neg (.float .f64 C)).run Try.prog W = .ok (.float .f64 (Op.negFloat .f64 C)) W := fun W => rfl
  obtain ⟨S', hS'⟩ : ∃ S', Op.negFloat .f64 S = S' := ⟨_, rfl⟩
  obtain ⟨C', hC'⟩ : ∃ C', Op.negFloat .f64 C = C' := ⟨_, rfl⟩
  rw [hS'] at n1
  rw [hC'] at n2
  rw [hS']
  skip
  clear hx hS' hC'
  go_enter Try.func19, Try.ntmps19
  go_wp2_with fail
  refine (CX.out _).mono ?_
  rintro e w' ⟨rfl, rfl⟩
  go_wp2_with fail
  refine (C0.out _).mono ?_
  rintro e w1 ⟨rfl, b1⟩
  go_wp2
  go_ret
  exact ⟨rfl, b1⟩
set_option maxRecDepth 100000 in
set_option maxHeartbeats 1000000 in
theorem fCos_2 (x S C : Nat) (w : World) (hx : Fin64 x) (C0 : RowKit.Hid (∀ w : World, Calls Try.prog 47 #[.float .f64 x] w fun e w' => e = .returned (.agg #[.int .i64 2, .float .f64 S, .float .f64 C]) ∧ Below w.heap.size w w')) : Calls Try.prog 18 #[.float .f64 x] w fun e w' => e = .returned (.float .f64 (Op.negFloat .f64 C)) ∧ Below w.heap.size w w' := by
  have CX := Lib.hid (fun W => fangled_yes x W hx)
  have n1 : ∀ W : World, (Op.unary UnOp.neg (.float .f64 S)).run Try.prog W = .ok (.float .f64 (Op.negFloat .f64 S)) W := fun W => rfl
  have n2 : ∀ W : World, (Op.unary UnOp.neg (.float .f64 C)).run Try.prog W = .ok (.float .f64 (Op.negFloat .f64 C)) W := fun W => rfl
  obtain ⟨S', hS'⟩ : ∃ S', Op.negFloat .f64 S = S' := ⟨_, rfl⟩
  obtain ⟨C', hC'⟩ : ∃ C', Op.negFloat .f64 C = C' := ⟨_, rfl⟩
  rw [hS'] at n1
  rw [hC'] at n2
  rw [hC']
  skip
  have hix : ∀ W : World, (Instr.index 43 (.agg #[.float .f64 C, .float .f64 S', .float .f64 C', .float .f64 S]) (.int .i64 2)).run Try.prog W = .ok (.float .f64 C') W := fun W => rfl
  clear hx hS' hC'
  go_enter Try.func18, Try.ntmps18
  go_wp2_with fail
  refine (CX.out _).mono ?_
  rintro e w' ⟨rfl, rfl⟩
  go_wp2_with fail
  refine (C0.out _).mono ?_
  rintro e w1 ⟨rfl, b1⟩
  have B1 := Lib.hid (b1.alloc b1.size (.cells #[.int .i64 2, .float .f64 S, .float .f64 C] 41))
  go_wp2_with (first | (refine wpList_store_row rfl 41 _ _ rfl w1.heap.size #[.int .i64 2, .float .f64 S, .float .f64 C] rfl rfl 41 #[.int .i64 0, .float .f64 0, .float .f64 0] (heap_alloc_last w1 _) (by first | kernel_rfl | rfl) rfl (by first | kernel_rfl | rfl) ?_; rw [World.setRow_alloc_new]))
  go_ret
  exact ⟨rfl, B1.out⟩
set_option maxRecDepth 100000 in
set_option maxHeartbeats 1000000 in
theorem vCos_2 (x S C : Nat) (w : World) (hx : Fin64 x) (C0 : RowKit.Hid (∀ w : World, Calls Try.prog 49 #[.float .f64 x] w fun e w' => e = .returned (.tuple #[.float .f64 S, .float .f64 C, .int .i64 2]) ∧ Below w.heap.size w w')) : Calls Try.prog 19 #[.float .f64 x] w fun e w' => e = .returned (.float .f64 (Op.negFloat .f64 C)) ∧ Below w.heap.size w w' := by
  have CX := Lib.hid (fun W => vfinite_yes x W hx)
  have n1 : ∀ W : World, (Op.unary UnOp.neg (.float .f64 S)).run Try.prog W = .ok (.float .f64 (Op.negFloat .f64 S)) W := fun W => rfl
  have n2 : ∀ W : World, (Op.unary UnOp.neg (.float .f64 C)).run Try.prog W = .ok (.float .f64 (Op.negFloat .f64 C)) W := fun W => rfl
  obtain ⟨S', hS'⟩ : ∃ S', Op.negFloat .f64 S = S' := ⟨_, rfl⟩
  obtain ⟨C', hC'⟩ : ∃ C', Op.negFloat .f64 C = C' := ⟨_, rfl⟩
  rw [hS'] at n1
  rw [hC'] at n2
  rw [hC']
  skip
  clear hx hS' hC'
  go_enter Try.func19, Try.ntmps19
  go_wp2_with fail
  refine (CX.out _).mono ?_
  rintro e w' ⟨rfl, rfl⟩
  go_wp2_with fail
  refine (C0.out _).mono ?_
  rintro e w1 ⟨rfl, b1⟩
  go_wp2
  go_ret
  exact ⟨rfl, b1⟩
set_option maxRecDepth 100000 in
set_option maxHeartbeats 1000000 in
theorem fCos_3 (x S C : Nat) (w : World) (hx : Fin64 x) (C0 : RowKit.Hid (∀ w : World, Calls Try.prog 47 #[.float .f64 x] w fun e w' => e = .returned (.agg #[.int .i64 3, .float .f64 S, .float .f64 C]) ∧ Below w.heap.size w w')) : Calls Try.prog 18 #[.float .f64 x] w fun e w' => e = .returned (.float .f64 S) ∧ Below w.heap.size w w' := by
  have CX := Lib.hid (fun W => fangled_yes x W hx)
  have n1 : ∀ W : World, (Op.unary UnOp.neg (.float .f64 S)).run Try.prog W = .ok (.float .f64 (Op.negFloat .f64 S)) W := fun W => rfl
  have n2 : ∀ W : World, (Op.unary UnOp.neg (.float .f64 C)).run Try.prog W = .ok (.float .f64 (Op.negFloat .f64 C)) W := fun W => rfl
  obtain ⟨S', hS'⟩ : ∃ S', Op.negFloat .f64 S = S' := ⟨_, rfl⟩
  obtain ⟨C', hC'⟩ : ∃ C', Op.negFloat .f64 C = C' := ⟨_, rfl⟩
  rw [hS'] at n1
  rw [hC'] at n2
  skip
  skip
  have hix : ∀ W : World, (Instr.index 43 (.agg #[.float .f64 C, .float .f64 S', .float .f64 C', .float .f64 S]) (.int .i64 3)).run Try.prog W = .ok (.float .f64 S) W := fun W => rfl
  clear hx hS' hC'
  go_enter Try.func18, Try.ntmps18
  go_wp2_with fail
  refine (CX.out _).mono ?_
  rintro e w' ⟨rfl, rfl⟩
  go_wp2_with fail
  refine (C0.out _).mono ?_
  rintro e w1 ⟨rfl, b1⟩
  have B1 := Lib.hid (b1.alloc b1.size (.cells #[.int .i64 3, .float .f64 S, .float .f64 C] 41))
  go_wp2_with (first | (refine wpList_store_row rfl 41 _ _ rfl w1.heap.size #[.int .i64 3, .float .f64 S, .float .f64 C] rfl rfl 41 #[.int .i64 0, .float .f64 0, .float .f64 0] (heap_alloc_last w1 _) (by first | kernel_rfl | rfl) rfl (by first | kernel_rfl | rfl) ?_; rw [World.setRow_alloc_new]))
  go_ret
  exact ⟨rfl, B1.out⟩
set_option maxRecDepth 100000 in
set_option maxHeartbeats 1000000 in
theorem vCos_3 (x S C : Nat) (w : World) (hx : Fin64 x) (C0 : RowKit.Hid (∀ w : World, Calls Try.prog 49 #[.float .f64 x] w fun e w' => e = .returned (.tuple #[.float .f64 S, .float .f64 C, .int .i64 3]) ∧ Below w.heap.size w w')) : Calls Try.prog 19 #[.float .f64 x] w fun e w' => e = .returned (.float .f64 S) ∧ Below w.heap.size w w' := by
  have CX := Lib.hid (fun W => vfinite_yes x W hx)
  have n1 : ∀ W : World, (Op.unary UnOp.neg (.float .f64 S)).run Try.prog W = .ok (.float .f64 (Op.negFloat .f64 S)) W := fun W => rfl
  have n2 : ∀ W : World, (Op.unary UnOp.neg (.float .f64 C)).run Try.prog W = .ok (.float .f64 (Op.negFloat .f64 C)) W := fun W => rfl
  obtain ⟨S', hS'⟩ : ∃ S', Op.negFloat .f64 S = S' := ⟨_, rfl⟩
  obtain ⟨C', hC'⟩ : ∃ C', Op.negFloat .f64 C = C' := ⟨_, rfl⟩
  rw [hS'] at n1
  rw [hC'] at n2
  skip
  skip
  clear hx hS' hC'
  go_enter Try.func19, Try.ntmps19
  go_wp2_with fail
  refine (CX.out _).mono ?_
  rintro e w' ⟨rfl, rfl⟩
  go_wp2_with fail
  refine (C0.out _).mono ?_
  rintro e w1 ⟨rfl, b1⟩
  go_wp2
  go_ret
  exact ⟨rfl, b1⟩
theorem fCos_bad (x : Nat) (w : World) (hx : x < 18446744073709551616) (h : ¬ rung x < 9218868437227405312) : Calls Try.prog 18 #[.float .f64 x] w fun e w' => e = .returned (.float .f64 9221120237041090560) ∧ Below w.heap.size w w' := by
  have CX := Lib.hid (fun W => fangled_no x W hx h)
  have CQ := Lib.hid (fun W => const_any 9221120237041090560 W)
  have B := Below.refl w.heap.size w
  clear hx h
  go_enter Try.func18, Try.ntmps18
  go_wp2_with fail
  refine (CX.out _).mono ?_
  rintro e w' ⟨rfl, rfl⟩
  go_wp2_with fail
  refine (CQ.out _).mono ?_
  rintro e w' ⟨rfl, rfl⟩
  go_wp2
  go_ret
  exact ⟨rfl, B⟩
theorem vCos_bad (x : Nat) (w : World) (hx : x < 18446744073709551616) (h : ¬ rung x < 9218868437227405312) : Calls Try.prog 19 #[.float .f64 x] w fun e w' => e = .returned (.float .f64 9221120237041090560) ∧ Below w.heap.size w w' := by
  have CX := Lib.hid (fun W => vfinite_no x W hx h)
  have CQ := Lib.hid (fun W => vnan_any W)
  have B := Below.refl w.heap.size w
  clear hx h
  go_enter Try.func19, Try.ntmps19
  go_wp2_with fail
  refine (CX.out _).mono ?_
  rintro e w' ⟨rfl, rfl⟩
  go_wp2_with fail
  refine (CQ.out _).mono ?_
  rintro e w' ⟨rfl, rfl⟩
  go_wp2
  go_ret
  exact ⟨rfl, B⟩
set_option maxRecDepth 100000 in
set_option maxHeartbeats 1000000 in
theorem fTan_0 (x S C q1 q2 : Nat) (w : World) (hx : Fin64 x) (h0 : (FloatKind.f64.format.order x 0 == some .eq) = false) (C0 : RowKit.Hid (∀ w : World, Calls Try.prog 47 #[.float .f64 x] w fun e w' => e = .returned (.agg #[.int .i64 0, .float .f64 S, .float .f64 C]) ∧ Below w.heap.size w w')) (d1 : Ieee.double.div S C = some q1) (d2 : Ieee.double.div (Op.negFloat .f64 C) S = some q2) : Calls Try.prog 20 #[.float .f64 x] w fun e w' => e = .returned (.float .f64 q1) ∧ Below w.heap.size w w' := by
  have CX := Lib.hid (fun W => fangled_yes x W hx)
  have n1 : ∀ W : World, (Op.unary UnOp.neg (.float .f64 S)).run Try.prog W = .ok (.float .f64 (Op.negFloat .f64 S)) W := fun W => rfl
  have n2 : ∀ W : World, (Op.unary UnOp.neg (.float .f64 C)).run Try.prog W = .ok (.float .f64 (Op.negFloat .f64 C)) W := fun W => rfl
  obtain ⟨S', hS'⟩ : ∃ S', Op.negFloat .f64 S = S' := ⟨_, rfl⟩
  obtain ⟨C', hC'⟩ : ∃ C', Op.negFloat .f64 C = C' := ⟨_, rfl⟩
  rw [hS'] at n1
  rw [hC'] at n2 d2
  have e1 := wDiv d1
  have e2 := wDiv d2
  have hix : ∀ W : World, (Instr.index 46 (.agg #[.float .f64 q1, .float .f64 q2]) (.int .i64 0)).run Try.prog W = .ok (.float .f64 q1) W := fun W => rfl
  clear hx hS' hC' d1 d2
  go_enter Try.func20, Try.ntmps20
  go_wp2_with fail
  refine (CX.out _).mono ?_
  rintro e w' ⟨rfl, rfl⟩
  go_wp2_with fail
  refine (C0.out _).mono ?_
  rintro e w1 ⟨rfl, b1⟩
  have B1 := Lib.hid (b1.alloc b1.size (.cells #[.int .i64 0, .float .f64 S, .float .f64 C] 41))
  go_wp2_with (first | (refine wpList_store_row rfl 41 _ _ rfl w1.heap.size #[.int .i64 0, .float .f64 S, .float .f64 C] rfl rfl 41 #[.int .i64 0, .float .f64 0, .float .f64 0] (heap_alloc_last w1 _) (by first | kernel_rfl | rfl) rfl (by first | kernel_rfl | rfl) ?_; rw [World.setRow_alloc_new]))
  go_ret
  exact ⟨rfl, B1.out⟩
set_option maxRecDepth 100000 in
set_option maxHeartbeats 1000000 in
theorem vTan_0 (x S C q1 q2 : Nat) (w : World) (hx : Fin64 x) (h0 : (FloatKind.f64.format.order x 0 == some .eq) = false) (C0 : RowKit.Hid (∀ w : World, Calls Try.prog 49 #[.float .f64 x] w fun e w' => e = .returned (.tuple #[.float .f64 S, .float .f64 C, .int .i64 0]) ∧ Below w.heap.size w w')) (d1 : Ieee.double.div S C = some q1) (d2 : Ieee.double.div (Op.negFloat .f64 C) S = some q2) : Calls Try.prog 21 #[.float .f64 x] w fun e w' => e = .returned (.float .f64 q1) ∧ Below w.heap.size w w' := by
  have CX := Lib.hid (fun W => vfinite_yes x W hx)
  have n1 : ∀ W : World, (Op.unary UnOp.neg (.float .f64 S)).run Try.prog W = .ok (.float .f64 (Op.negFloat .f64 S)) W := fun W => rfl
  have n2 : ∀ W : World, (Op.unary UnOp.neg (.float .f64 C)).run Try.prog W = .ok (.float .f64 (Op.negFloat .f64 C)) W := fun W => rfl
  obtain ⟨S', hS'⟩ : ∃ S', Op.negFloat .f64 S = S' := ⟨_, rfl⟩
  obtain ⟨C', hC'⟩ : ∃ C', Op.negFloat .f64 C = C' := ⟨_, rfl⟩
  rw [hS'] at n1
  rw [hC'] at n2 d2
  have e1 := wDiv d1
  have e2 := wDiv d2
  clear hx hS' hC' d1 d2
  go_enter Try.func21, Try.ntmps21
  go_wp2_with fail
  refine (CX.out _).mono ?_
  rintro e w' ⟨rfl, rfl⟩
  go_wp2_with fail
  refine (C0.out _).mono ?_
  rintro e w1 ⟨rfl, b1⟩
  go_wp2
  go_ret
  exact ⟨rfl, b1⟩
set_option maxRecDepth 100000 in
set_option maxHeartbeats 1000000 in
theorem fTan_1 (x S C q1 q2 : Nat) (w : World) (hx : Fin64 x) (h0 : (FloatKind.f64.format.order x 0 == some .eq) = false) (C0 : RowKit.Hid (∀ w : World, Calls Try.prog 47 #[.float .f64 x] w fun e w' => e = .returned (.agg #[.int .i64 1, .float .f64 S, .float .f64 C]) ∧ Below w.heap.size w w')) (d1 : Ieee.double.div S C = some q1) (d2 : Ieee.double.div (Op.negFloat .f64 C) S = some q2) : Calls Try.prog 20 #[.float .f64 x] w fun e w' => e = .returned (.float .f64 q2) ∧ Below w.heap.size w w' := by
  have CX := Lib.hid (fun W => fangled_yes x W hx)
  have n1 : ∀ W : World, (Op.unary UnOp.neg (.float .f64 S)).run Try.prog W = .ok (.float .f64 (Op.negFloat .f64 S)) W := fun W => rfl
  have n2 : ∀ W : World, (Op.unary UnOp.neg (.float .f64 C)).run Try.prog W = .ok (.float .f64 (Op.negFloat .f64 C)) W := fun W => rfl
  obtain ⟨S', hS'⟩ : ∃ S', Op.negFloat .f64 S = S' := ⟨_, rfl⟩
  obtain ⟨C', hC'⟩ : ∃ C', Op.negFloat .f64 C = C' := ⟨_, rfl⟩
  rw [hS'] at n1
  rw [hC'] at n2 d2
  have e1 := wDiv d1
  have e2 := wDiv d2
  have hix : ∀ W : World, (Instr.index 46 (.agg #[.float .f64 q1, .float .f64 q2]) (.int .i64 1)).run Try.prog W = .ok (.float .f64 q2) W := fun W => rfl
  clear hx hS' hC' d1 d2
  go_enter Try.func20, Try.ntmps20
  go_wp2_with fail
  refine (CX.out _).mono ?_
  rintro e w' ⟨rfl, rfl⟩
  go_wp2_with fail
  refine (C0.out _).mono ?_
  rintro e w1 ⟨rfl, b1⟩
  have B1 := Lib.hid (b1.alloc b1.size (.cells #[.int .i64 1, .float .f64 S, .float .f64 C] 41))
  go_wp2_with (first | (refine wpList_store_row rfl 41 _ _ rfl w1.heap.size #[.int .i64 1, .float .f64 S, .float .f64 C] rfl rfl 41 #[.int .i64 0, .float .f64 0, .float .f64 0] (heap_alloc_last w1 _) (by first | kernel_rfl | rfl) rfl (by first | kernel_rfl | rfl) ?_; rw [World.setRow_alloc_new]))
  go_ret
  exact ⟨rfl, B1.out⟩
set_option maxRecDepth 100000 in
set_option maxHeartbeats 1000000 in
theorem vTan_1 (x S C q1 q2 : Nat) (w : World) (hx : Fin64 x) (h0 : (FloatKind.f64.format.order x 0 == some .eq) = false) (C0 : RowKit.Hid (∀ w : World, Calls Try.prog 49 #[.float .f64 x] w fun e w' => e = .returned (.tuple #[.float .f64 S, .float .f64 C, .int .i64 1]) ∧ Below w.heap.size w w')) (d1 : Ieee.double.div S C = some q1) (d2 : Ieee.double.div (Op.negFloat .f64 C) S = some q2) : Calls Try.prog 21 #[.float .f64 x] w fun e w' => e = .returned (.float .f64 q2) ∧ Below w.heap.size w w' := by
  have CX := Lib.hid (fun W => vfinite_yes x W hx)
  have n1 : ∀ W : World, (Op.unary UnOp.neg (.float .f64 S)).run Try.prog W = .ok (.float .f64 (Op.negFloat .f64 S)) W := fun W => rfl
  have n2 : ∀ W : World, (Op.unary UnOp.neg (.float .f64 C)).run Try.prog W = .ok (.float .f64 (Op.negFloat .f64 C)) W := fun W => rfl
  obtain ⟨S', hS'⟩ : ∃ S', Op.negFloat .f64 S = S' := ⟨_, rfl⟩
  obtain ⟨C', hC'⟩ : ∃ C', Op.negFloat .f64 C = C' := ⟨_, rfl⟩
  rw [hS'] at n1
  rw [hC'] at n2 d2
  have e1 := wDiv d1
  have e2 := wDiv d2
  clear hx hS' hC' d1 d2
  go_enter Try.func21, Try.ntmps21
  go_wp2_with fail
  refine (CX.out _).mono ?_
  rintro e w' ⟨rfl, rfl⟩
  go_wp2_with fail
  refine (C0.out _).mono ?_
  rintro e w1 ⟨rfl, b1⟩
  go_wp2
  go_ret
  exact ⟨rfl, b1⟩
set_option maxRecDepth 100000 in
set_option maxHeartbeats 1000000 in
theorem fTan_2 (x S C q1 q2 : Nat) (w : World) (hx : Fin64 x) (h0 : (FloatKind.f64.format.order x 0 == some .eq) = false) (C0 : RowKit.Hid (∀ w : World, Calls Try.prog 47 #[.float .f64 x] w fun e w' => e = .returned (.agg #[.int .i64 2, .float .f64 S, .float .f64 C]) ∧ Below w.heap.size w w')) (d1 : Ieee.double.div S C = some q1) (d2 : Ieee.double.div (Op.negFloat .f64 C) S = some q2) : Calls Try.prog 20 #[.float .f64 x] w fun e w' => e = .returned (.float .f64 q1) ∧ Below w.heap.size w w' := by
  have CX := Lib.hid (fun W => fangled_yes x W hx)
  have n1 : ∀ W : World, (Op.unary UnOp.neg (.float .f64 S)).run Try.prog W = .ok (.float .f64 (Op.negFloat .f64 S)) W := fun W => rfl
  have n2 : ∀ W : World, (Op.unary UnOp.neg (.float .f64 C)).run Try.prog W = .ok (.float .f64 (Op.negFloat .f64 C)) W := fun W => rfl
  obtain ⟨S', hS'⟩ : ∃ S', Op.negFloat .f64 S = S' := ⟨_, rfl⟩
  obtain ⟨C', hC'⟩ : ∃ C', Op.negFloat .f64 C = C' := ⟨_, rfl⟩
  rw [hS'] at n1
  rw [hC'] at n2 d2
  have e1 := wDiv d1
  have e2 := wDiv d2
  have hix : ∀ W : World, (Instr.index 46 (.agg #[.float .f64 q1, .float .f64 q2]) (.int .i64 0)).run Try.prog W = .ok (.float .f64 q1) W := fun W => rfl
  clear hx hS' hC' d1 d2
  go_enter Try.func20, Try.ntmps20
  go_wp2_with fail
  refine (CX.out _).mono ?_
  rintro e w' ⟨rfl, rfl⟩
  go_wp2_with fail
  refine (C0.out _).mono ?_
  rintro e w1 ⟨rfl, b1⟩
  have B1 := Lib.hid (b1.alloc b1.size (.cells #[.int .i64 2, .float .f64 S, .float .f64 C] 41))
  go_wp2_with (first | (refine wpList_store_row rfl 41 _ _ rfl w1.heap.size #[.int .i64 2, .float .f64 S, .float .f64 C] rfl rfl 41 #[.int .i64 0, .float .f64 0, .float .f64 0] (heap_alloc_last w1 _) (by first | kernel_rfl | rfl) rfl (by first | kernel_rfl | rfl) ?_; rw [World.setRow_alloc_new]))
  go_ret
  exact ⟨rfl, B1.out⟩
set_option maxRecDepth 100000 in
set_option maxHeartbeats 1000000 in
theorem vTan_2 (x S C q1 q2 : Nat) (w : World) (hx : Fin64 x) (h0 : (FloatKind.f64.format.order x 0 == some .eq) = false) (C0 : RowKit.Hid (∀ w : World, Calls Try.prog 49 #[.float .f64 x] w fun e w' => e = .returned (.tuple #[.float .f64 S, .float .f64 C, .int .i64 2]) ∧ Below w.heap.size w w')) (d1 : Ieee.double.div S C = some q1) (d2 : Ieee.double.div (Op.negFloat .f64 C) S = some q2) : Calls Try.prog 21 #[.float .f64 x] w fun e w' => e = .returned (.float .f64 q1) ∧ Below w.heap.size w w' := by
  have CX := Lib.hid (fun W => vfinite_yes x W hx)
  have n1 : ∀ W : World, (Op.unary UnOp.neg (.float .f64 S)).run Try.prog W = .ok (.float .f64 (Op.negFloat .f64 S)) W := fun W => rfl
  have n2 : ∀ W : World, (Op.unary UnOp.neg (.float .f64 C)).run Try.prog W = .ok (.float .f64 (Op.negFloat .f64 C)) W := fun W => rfl
  obtain ⟨S', hS'⟩ : ∃ S', Op.negFloat .f64 S = S' := ⟨_, rfl⟩
  obtain ⟨C', hC'⟩ : ∃ C', Op.negFloat .f64 C = C' := ⟨_, rfl⟩
  rw [hS'] at n1
  rw [hC'] at n2 d2
  have e1 := wDiv d1
  have e2 := wDiv d2
  clear hx hS' hC' d1 d2
  go_enter Try.func21, Try.ntmps21
  go_wp2_with fail
  refine (CX.out _).mono ?_
  rintro e w' ⟨rfl, rfl⟩
  go_wp2_with fail
  refine (C0.out _).mono ?_
  rintro e w1 ⟨rfl, b1⟩
  go_wp2
  go_ret
  exact ⟨rfl, b1⟩
set_option maxRecDepth 100000 in
set_option maxHeartbeats 1000000 in
theorem fTan_3 (x S C q1 q2 : Nat) (w : World) (hx : Fin64 x) (h0 : (FloatKind.f64.format.order x 0 == some .eq) = false) (C0 : RowKit.Hid (∀ w : World, Calls Try.prog 47 #[.float .f64 x] w fun e w' => e = .returned (.agg #[.int .i64 3, .float .f64 S, .float .f64 C]) ∧ Below w.heap.size w w')) (d1 : Ieee.double.div S C = some q1) (d2 : Ieee.double.div (Op.negFloat .f64 C) S = some q2) : Calls Try.prog 20 #[.float .f64 x] w fun e w' => e = .returned (.float .f64 q2) ∧ Below w.heap.size w w' := by
  have CX := Lib.hid (fun W => fangled_yes x W hx)
  have n1 : ∀ W : World, (Op.unary UnOp.neg (.float .f64 S)).run Try.prog W = .ok (.float .f64 (Op.negFloat .f64 S)) W := fun W => rfl
  have n2 : ∀ W : World, (Op.unary UnOp.neg (.float .f64 C)).run Try.prog W = .ok (.float .f64 (Op.negFloat .f64 C)) W := fun W => rfl
  obtain ⟨S', hS'⟩ : ∃ S', Op.negFloat .f64 S = S' := ⟨_, rfl⟩
  obtain ⟨C', hC'⟩ : ∃ C', Op.negFloat .f64 C = C' := ⟨_, rfl⟩
  rw [hS'] at n1
  rw [hC'] at n2 d2
  have e1 := wDiv d1
  have e2 := wDiv d2
  have hix : ∀ W : World, (Instr.index 46 (.agg #[.float .f64 q1, .float .f64 q2]) (.int .i64 1)).run Try.prog W = .ok (.float .f64 q2) W := fun W => rfl
  clear hx hS' hC' d1 d2
  go_enter Try.func20, Try.ntmps20
  go_wp2_with fail
  refine (CX.out _).mono ?_
  rintro e w' ⟨rfl, rfl⟩
  go_wp2_with fail
  refine (C0.out _).mono ?_
  rintro e w1 ⟨rfl, b1⟩
  have B1 := Lib.hid (b1.alloc b1.size (.cells #[.int .i64 3, .float .f64 S, .float .f64 C] 41))
  go_wp2_with (first | (refine wpList_store_row rfl 41 _ _ rfl w1.heap.size #[.int .i64 3, .float .f64 S, .float .f64 C] rfl rfl 41 #[.int .i64 0, .float .f64 0, .float .f64 0] (heap_alloc_last w1 _) (by first | kernel_rfl | rfl) rfl (by first | kernel_rfl | rfl) ?_; rw [World.setRow_alloc_new]))
  go_ret
  exact ⟨rfl, B1.out⟩
set_option maxRecDepth 100000 in
set_option maxHeartbeats 1000000 in
theorem vTan_3 (x S C q1 q2 : Nat) (w : World) (hx : Fin64 x) (h0 : (FloatKind.f64.format.order x 0 == some .eq) = false) (C0 : RowKit.Hid (∀ w : World, Calls Try.prog 49 #[.float .f64 x] w fun e w' => e = .returned (.tuple #[.float .f64 S, .float .f64 C, .int .i64 3]) ∧ Below w.heap.size w w')) (d1 : Ieee.double.div S C = some q1) (d2 : Ieee.double.div (Op.negFloat .f64 C) S = some q2) : Calls Try.prog 21 #[.float .f64 x] w fun e w' => e = .returned (.float .f64 q2) ∧ Below w.heap.size w w' := by
  have CX := Lib.hid (fun W => vfinite_yes x W hx)
  have n1 : ∀ W : World, (Op.unary UnOp.neg (.float .f64 S)).run Try.prog W = .ok (.float .f64 (Op.negFloat .f64 S)) W := fun W => rfl
  have n2 : ∀ W : World, (Op.unary UnOp.neg (.float .f64 C)).run Try.prog W = .ok (.float .f64 (Op.negFloat .f64 C)) W := fun W => rfl
  obtain ⟨S', hS'⟩ : ∃ S', Op.negFloat .f64 S = S' := ⟨_, rfl⟩
  obtain ⟨C', hC'⟩ : ∃ C', Op.negFloat .f64 C = C' := ⟨_, rfl⟩
  rw [hS'] at n1
  rw [hC'] at n2 d2
  have e1 := wDiv d1
  have e2 := wDiv d2
  clear hx hS' hC' d1 d2
  go_enter Try.func21, Try.ntmps21
  go_wp2_with fail
  refine (CX.out _).mono ?_
  rintro e w' ⟨rfl, rfl⟩
  go_wp2_with fail
  refine (C0.out _).mono ?_
  rintro e w1 ⟨rfl, b1⟩
  go_wp2
  go_ret
  exact ⟨rfl, b1⟩
theorem fTan_bad (x : Nat) (w : World) (hx : x < 18446744073709551616) (h : ¬ rung x < 9218868437227405312) : Calls Try.prog 20 #[.float .f64 x] w fun e w' => e = .returned (.float .f64 9221120237041090560) ∧ Below w.heap.size w w' := by
  have CX := Lib.hid (fun W => fangled_no x W hx h)
  have CQ := Lib.hid (fun W => const_any 9221120237041090560 W)
  have B := Below.refl w.heap.size w
  clear hx h
  go_enter Try.func20, Try.ntmps20
  go_wp2_with fail
  refine (CX.out _).mono ?_
  rintro e w' ⟨rfl, rfl⟩
  go_wp2_with fail
  refine (CQ.out _).mono ?_
  rintro e w' ⟨rfl, rfl⟩
  go_wp2
  go_ret
  exact ⟨rfl, B⟩
theorem fTan_zero (x : Nat) (w : World) (hx : Fin64 x) (h0 : (FloatKind.f64.format.order x 0 == some .eq) = true) : Calls Try.prog 20 #[.float .f64 x] w fun e w' => e = .returned (.float .f64 x) ∧ Below w.heap.size w w' := by
  have CX := Lib.hid (fun W => fangled_yes x W hx)
  have B := Below.refl w.heap.size w
  clear hx
  go_enter Try.func20, Try.ntmps20
  go_wp2_with fail
  refine (CX.out _).mono ?_
  rintro e w' ⟨rfl, rfl⟩
  go_wp2
  go_ret
  exact ⟨rfl, B⟩
theorem vTan_bad (x : Nat) (w : World) (hx : x < 18446744073709551616) (h : ¬ rung x < 9218868437227405312) : Calls Try.prog 21 #[.float .f64 x] w fun e w' => e = .returned (.float .f64 9221120237041090560) ∧ Below w.heap.size w w' := by
  have CX := Lib.hid (fun W => vfinite_no x W hx h)
  have CQ := Lib.hid (fun W => vnan_any W)
  have B := Below.refl w.heap.size w
  clear hx h
  go_enter Try.func21, Try.ntmps21
  go_wp2_with fail
  refine (CX.out _).mono ?_
  rintro e w' ⟨rfl, rfl⟩
  go_wp2_with fail
  refine (CQ.out _).mono ?_
  rintro e w' ⟨rfl, rfl⟩
  go_wp2
  go_ret
  exact ⟨rfl, B⟩
theorem vTan_zero (x : Nat) (w : World) (hx : Fin64 x) (h0 : (FloatKind.f64.format.order x 0 == some .eq) = true) : Calls Try.prog 21 #[.float .f64 x] w fun e w' => e = .returned (.float .f64 x) ∧ Below w.heap.size w w' := by
  have CX := Lib.hid (fun W => vfinite_yes x W hx)
  have B := Below.refl w.heap.size w
  clear hx
  go_enter Try.func21, Try.ntmps21
  go_wp2_with fail
  refine (CX.out _).mono ?_
  rintro e w' ⟨rfl, rfl⟩
  go_wp2
  go_ret
  exact ⟨rfl, B⟩
theorem neg_fin {x : Nat} (h : Fin64 x) : Fin64 (Op.negFloat .f64 x) ∧ rung (Op.negFloat .f64 x) = rung x ∧ fneg (Op.negFloat .f64 x) = !fneg x := by
  have hr : rung x < 9223372036854775808 := Nat.mod_lt _ (by omega)
  have h1 := neg_float (fneg x) hr
  rw [word_self h.1] at h1
  obtain ⟨a, b, c⟩ := word_rung (!fneg x) hr
  rw [h1]
  exact ⟨⟨c, by rw [a]; exact h.2⟩, a, b⟩
/-- A quotient of finite floats, not both noughts. -/
theorem div_some {x y : Nat} (hx : Fin64 x) (hy : Fin64 y) (h : 0 < rung x ∨ 0 < rung y) : ∃ r, Ieee.double.div x y = some r := by
  obtain ⟨K, hK⟩ : ∃ K : Nat, K = 1074 := ⟨_, rfl⟩
  rcases Nat.eq_zero_or_pos (rung y) with h0 | h0
  · obtain ⟨m, i, a1, a2, a3⟩ := read_fin64 hx
    obtain ⟨n, j, b1, b2, b3⟩ := read_fin64 hy
    have hm : m ≠ 0 := by
      intro e
      have := fmag_pos.2 (show 0 < rung x by omega)
      have e2 : mg x = fmag (rung x) := rfl
      rw [e, Nat.zero_mul] at a3
      omega
    have hn : n = 0 := by
      have e2 : mg y = fmag (rung y) := rfl
      rw [h0] at e2
      have e3 : fmag 0 = 0 := rfl
      rw [e3] at e2
      rw [e2] at b3
      exact (Nat.mul_eq_zero.1 b3.symm).resolve_right (by have := Nat.two_pow_pos (j + 1074).toNat; omega)
    unfold Ieee.Format.div
    rw [a1, b1]
    simp only [Ieee.Datum.quotient]
    rw [if_pos hn, if_neg hm]
    exact ⟨_, rfl⟩
  · obtain ⟨r, h1, _⟩ := div_core hx hy h0 hK
    exact ⟨r, h1⟩
def BothTell (f v x u : Nat) : Prop := (∀ w : World, Calls Try.prog f #[.float .f64 x] w fun e w' => e = .returned (.float .f64 u) ∧ Below w.heap.size w w') ∧ (∀ w : World, Calls Try.prog v #[.float .f64 x] w fun e w' => e = .returned (.float .f64 u) ∧ Below w.heap.size w w')
theorem quarter_cases {m : Int} (h : 0 ≤ m ∧ m < 4) : m = 0 ∨ m = 1 ∨ m = 2 ∨ m = 3 := by omega
theorem sin_both {x : Nat} (hw : x < 18446744073709551616) : ∃ u, BothTell 16 17 x u := by
  by_cases h : rung x < 9218868437227405312
  · have hx : Fin64 x := ⟨hw, h⟩
    obtain ⟨S, C, m, T⟩ := turned_both hx
    have HF := Lib.hid T.f
    have HV := Lib.hid T.v
    cases h0 : (FloatKind.f64.format.order x 0 == some .eq)
    · rcases quarter_cases T.hm with rfl | rfl | rfl | rfl
      · exact ⟨_, fun w => fSin_0 x S C w hx h0 HF, fun w => vSin_0 x S C w hx h0 HV⟩
      · exact ⟨_, fun w => fSin_1 x S C w hx h0 HF, fun w => vSin_1 x S C w hx h0 HV⟩
      · exact ⟨_, fun w => fSin_2 x S C w hx h0 HF, fun w => vSin_2 x S C w hx h0 HV⟩
      · exact ⟨_, fun w => fSin_3 x S C w hx h0 HF, fun w => vSin_3 x S C w hx h0 HV⟩
    · exact ⟨x, fun w => fSin_zero x w hx h0, fun w => vSin_zero x w hx h0⟩
  · exact ⟨_, fun w => fSin_bad x w hw h, fun w => vSin_bad x w hw h⟩
theorem cos_both {x : Nat} (hw : x < 18446744073709551616) : ∃ u, BothTell 18 19 x u := by
  by_cases h : rung x < 9218868437227405312
  · have hx : Fin64 x := ⟨hw, h⟩
    obtain ⟨S, C, m, T⟩ := turned_both hx
    have HF := Lib.hid T.f
    have HV := Lib.hid T.v
    rcases quarter_cases T.hm with rfl | rfl | rfl | rfl
    · exact ⟨_, fun w => fCos_0 x S C w hx HF, fun w => vCos_0 x S C w hx HV⟩
    · exact ⟨_, fun w => fCos_1 x S C w hx HF, fun w => vCos_1 x S C w hx HV⟩
    · exact ⟨_, fun w => fCos_2 x S C w hx HF, fun w => vCos_2 x S C w hx HV⟩
    · exact ⟨_, fun w => fCos_3 x S C w hx HF, fun w => vCos_3 x S C w hx HV⟩
  · exact ⟨_, fun w => fCos_bad x w hw h, fun w => vCos_bad x w hw h⟩
theorem tan_both {x : Nat} (hw : x < 18446744073709551616) : ∃ u, BothTell 20 21 x u := by
  by_cases h : rung x < 9218868437227405312
  · have hx : Fin64 x := ⟨hw, h⟩
    obtain ⟨S, C, m, T⟩ := turned_both hx
    have HF := Lib.hid T.f
    have HV := Lib.hid T.v
    cases h0 : (FloatKind.f64.format.order x 0 == some .eq)
    · obtain ⟨q1, d1⟩ := div_some T.hS T.hC (Or.inr T.hC0)
      obtain ⟨n1, n2, _⟩ := neg_fin T.hC
      obtain ⟨q2, d2⟩ := div_some n1 T.hS (Or.inl (by rw [n2]; exact T.hC0))
      rcases quarter_cases T.hm with rfl | rfl | rfl | rfl
      · exact ⟨_, fun w => fTan_0 x S C q1 q2 w hx h0 HF d1 d2, fun w => vTan_0 x S C q1 q2 w hx h0 HV d1 d2⟩
      · exact ⟨_, fun w => fTan_1 x S C q1 q2 w hx h0 HF d1 d2, fun w => vTan_1 x S C q1 q2 w hx h0 HV d1 d2⟩
      · exact ⟨_, fun w => fTan_2 x S C q1 q2 w hx h0 HF d1 d2, fun w => vTan_2 x S C q1 q2 w hx h0 HV d1 d2⟩
      · exact ⟨_, fun w => fTan_3 x S C q1 q2 w hx h0 HF d1 d2, fun w => vTan_3 x S C q1 q2 w hx h0 HV d1 d2⟩
    · exact ⟨x, fun w => fTan_zero x w hx h0, fun w => vTan_zero x w hx h0⟩
  · exact ⟨_, fun w => fTan_bad x w hw h, fun w => vTan_bad x w hw h⟩
set_option maxRecDepth 100000 in
theorem angles_any (x : Nat) (w : World) (hx : x < 18446744073709551616) : Calls Try.prog 4 #[.float .f64 x] w fun e w' => e = .returned (.bool true) ∧ Below w.heap.size w w' := by
  obtain ⟨u, hu1, hu2⟩ := sin_both hx
  obtain ⟨v, hv1, hv2⟩ := cos_both hx
  obtain ⟨t, ht1, ht2⟩ := tan_both hx
  have C5 := Lib.hid (fun x W => same_any x W)
  have C6 := Lib.hid (fun W => awake_any W)
  have D1 := Lib.hid hu1
  have D2 := Lib.hid hu2
  have D3 := Lib.hid hv1
  have D4 := Lib.hid hv2
  have D5 := Lib.hid ht1
  have D6 := Lib.hid ht2
  clear hu1 hu2 hv1 hv2 ht1 ht2 hx
  go_enter Try.func4, Try.ntmps4
  go_wp2_with fail
  refine (D1.out _).mono ?_
  rintro e w1 ⟨rfl, b1⟩
  go_wp2_with fail
  refine (D2.out _).mono ?_
  rintro e w2 ⟨rfl, b2⟩
  go_wp2_with fail
  refine (C5.out _ _).mono ?_
  rintro e w' ⟨rfl, rfl⟩
  go_wp2_with fail
  refine (D3.out _).mono ?_
  rintro e w3 ⟨rfl, b3⟩
  go_wp2_with fail
  refine (D4.out _).mono ?_
  rintro e w4 ⟨rfl, b4⟩
  go_wp2_with fail
  refine (C5.out _ _).mono ?_
  rintro e w' ⟨rfl, rfl⟩
  go_wp2_with fail
  refine (D5.out _).mono ?_
  rintro e w5 ⟨rfl, b5⟩
  go_wp2_with fail
  refine (D6.out _).mono ?_
  rintro e w6 ⟨rfl, b6⟩
  go_wp2_with fail
  refine (C5.out _ _).mono ?_
  rintro e w' ⟨rfl, rfl⟩
  go_wp2_with fail
  refine (C6.out _).mono ?_
  rintro e w' ⟨rfl, rfl⟩
  go_wp2
  go_ret
  exact ⟨rfl, below_le (below_le (below_le (below_le (below_le b1 b2) b3) b4) b5) b6⟩
end Go.Proofs.Ytbinpcoaghpcdaa
