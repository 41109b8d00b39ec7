/-
  Pow of the program and of the reference: their ways, branch by branch.
-/
import Derived.Test.YtbinpcoaghpcdaaPx
namespace Go.Proofs.Ytbinpcoaghpcdaa
open Go.RowKit
def gt1 (a : Nat) : Bool := FloatKind.f64.format.order a 4607182418800017408 == some .gt
def eq1 (a : Nat) : Bool := FloatKind.f64.format.order a 4607182418800017408 == some .eq
def gt0 (a : Nat) : Bool := FloatKind.f64.format.order a 0 == some .gt
/-- A power to an infinity, or of an infinity or a nought. -/
def endV (a y : Nat) : Nat := if eq1 a = true then 9221120237041090560 else if (gt1 a == gt0 y) = true then 9218868437227405312 else 0
set_option maxRecDepth 100000 in
set_option maxHeartbeats 1000000 in
theorem fendless_1 (a y : Nat) (w : World) (h1 : (FloatKind.f64.format.order a 4607182418800017408 == some .eq) = true) : Calls Try.prog 60 #[.float .f64 a, .float .f64 y] w fun e w' => e = .returned (.float .f64 9221120237041090560) ∧ w = w' := by
  have C1 := Lib.hid (fun W => const_any 9221120237041090560 W)
  go_enter Try.func60, Try.ntmps60
  go_wp2_with fail
  refine (C1.out _).mono ?_
  rintro e w' ⟨rfl, rfl⟩
  go_wp2
  go_ret
  exact ⟨rfl, rfl⟩
set_option maxRecDepth 100000 in
set_option maxHeartbeats 1000000 in
theorem fendless_tt (a y : Nat) (w : World) (h1 : (FloatKind.f64.format.order a 4607182418800017408 == some .eq) = false) (h2 : (FloatKind.f64.format.order a 4607182418800017408 == some .gt) = true) (h3 : (FloatKind.f64.format.order y 0 == some .gt) = true) : Calls Try.prog 60 #[.float .f64 a, .float .f64 y] w fun e w' => e = .returned (.float .f64 9218868437227405312) ∧ w = w' := by
  have C1 := Lib.hid (fun W => inf1_any W)
  go_enter Try.func60, Try.ntmps60
  go_wp2_with fail
  refine (C1.out _).mono ?_
  rintro e w' ⟨rfl, rfl⟩
  go_wp2
  go_ret
  exact ⟨rfl, rfl⟩
set_option maxRecDepth 100000 in
set_option maxHeartbeats 1000000 in
theorem fendless_tf (a y : Nat) (w : World) (h1 : (FloatKind.f64.format.order a 4607182418800017408 == some .eq) = false) (h2 : (FloatKind.f64.format.order a 4607182418800017408 == some .gt) = true) (h3 : (FloatKind.f64.format.order y 0 == some .gt) = false) : Calls Try.prog 60 #[.float .f64 a, .float .f64 y] w fun e w' => e = .returned (.float .f64 0) ∧ w = w' := by
  go_enter Try.func60, Try.ntmps60
  go_wp2
  go_ret
  exact ⟨rfl, rfl⟩
set_option maxRecDepth 100000 in
set_option maxHeartbeats 1000000 in
theorem fendless_ft (a y : Nat) (w : World) (h1 : (FloatKind.f64.format.order a 4607182418800017408 == some .eq) = false) (h2 : (FloatKind.f64.format.order a 4607182418800017408 == some .gt) = false) (h3 : (FloatKind.f64.format.order y 0 == some .gt) = true) : Calls Try.prog 60 #[.float .f64 a, .float .f64 y] w fun e w' => e = .returned (.float .f64 0) ∧ w = w' := by
  go_enter Try.func60, Try.ntmps60
  go_wp2
  go_ret
  exact ⟨rfl, rfl⟩
set_option maxRecDepth 100000 in
set_option maxHeartbeats 1000000 in
theorem fendless_ff (a y : Nat) (w : World) (h1 : (FloatKind.f64.format.order a 4607182418800017408 == some .eq) = false) (h2 : (FloatKind.f64.format.order a 4607182418800017408 == some .gt) = false) (h3 : (FloatKind.f64.format.order y 0 == some .gt) = false) : Calls Try.prog 60 #[.float .f64 a, .float .f64 y] w fun e w' => e = .returned (.float .f64 9218868437227405312) ∧ w = w' := by
  have C1 := Lib.hid (fun W => inf1_any W)
  go_enter Try.func60, Try.ntmps60
  go_wp2_with fail
  refine (C1.out _).mono ?_
  rintro e w' ⟨rfl, rfl⟩
  go_wp2
  go_ret
  exact ⟨rfl, rfl⟩
theorem fendless_any (a y : Nat) (w : World) : Calls Try.prog 60 #[.float .f64 a, .float .f64 y] w fun e w' => e = .returned (.float .f64 (endV a y)) ∧ w = w' := by
  unfold endV
  cases h1 : eq1 a
  · rw [if_neg (by simp)]
    cases h2 : gt1 a <;> cases h3 : gt0 y
    · rw [if_pos (by decide)]; exact fendless_ff a y w h1 h2 h3
    · rw [if_neg (by simp)]; exact fendless_ft a y w h1 h2 h3
    · rw [if_neg (by simp)]; exact fendless_tf a y w h1 h2 h3
    · rw [if_pos (by decide)]; exact fendless_tt a y w h1 h2 h3
  · rw [if_pos rfl]; exact fendless_1 a y w h1
set_option maxRecDepth 100000 in
set_option maxHeartbeats 1000000 in
theorem famount_inf (a y : Nat) (w : World) (ha : a < 18446744073709551616) (hi : finf a = true) : Calls Try.prog 62 #[.float .f64 a, .float .f64 y] w fun e w' => e = .returned (.float .f64 (endV a y)) ∧ w = w' := by
  have CI := Lib.hid (fun W => isInf0_any a W ha)
  rw [hi] at CI
  have C2 := Lib.hid (fun W => fendless_any a y W)
  obtain ⟨r, hr⟩ : ∃ r, endV a y = r := ⟨_, rfl⟩
  rw [hr] at C2 ⊢
  clear ha hi hr
  go_enter Try.func62, Try.ntmps62
  go_wp2_with fail
  refine (CI.out _).mono ?_
  rintro e w' ⟨rfl, rfl⟩
  go_wp2_with fail
  refine (C2.out _).mono ?_
  rintro e w' ⟨rfl, rfl⟩
  go_wp2
  go_ret
  exact ⟨rfl, rfl⟩
set_option maxRecDepth 100000 in
set_option maxHeartbeats 1000000 in
theorem famount_zero (a y : Nat) (w : World) (ha : a < 18446744073709551616) (hi : finf a = false) (hz : (FloatKind.f64.format.order a 0 == some .eq) = true) : Calls Try.prog 62 #[.float .f64 a, .float .f64 y] w fun e w' => e = .returned (.float .f64 (endV a y)) ∧ w = w' := by
  have CI := Lib.hid (fun W => isInf0_any a W ha)
  rw [hi] at CI
  have C2 := Lib.hid (fun W => fendless_any a y W)
  obtain ⟨r, hr⟩ : ∃ r, endV a y = r := ⟨_, rfl⟩
  rw [hr] at C2 ⊢
  clear ha hi hr
  go_enter Try.func62, Try.ntmps62
  go_wp2_with fail
  refine (CI.out _).mono ?_
  rintro e w' ⟨rfl, rfl⟩
  go_wp2_with fail
  refine (C2.out _).mono ?_
  rintro e w' ⟨rfl, rfl⟩
  go_wp2
  go_ret
  exact ⟨rfl, rfl⟩
set_option maxRecDepth 100000 in
set_option maxHeartbeats 1000000 in
theorem famount_frac (a y l t u : Nat) (w : World) (ha : a < 18446744073709551616) (hi : finf a = false) (hz : (FloatKind.f64.format.order a 0 == some .eq) = false) (hy : Fin64 y) (hw : whl y = false) (m : Ieee.double.mul y l = some t) (CL : RowKit.Hid (∀ W : World, Calls Try.prog 13 #[.float .f64 a] W fun e w' => e = .returned (.float .f64 l) ∧ W = w')) (CE : RowKit.Hid (∀ W : World, Calls Try.prog 11 #[.float .f64 t] W fun e w' => e = .returned (.float .f64 u) ∧ W = w')) : Calls Try.prog 62 #[.float .f64 a, .float .f64 y] w fun e w' => e = .returned (.float .f64 u) ∧ w = w' := by
  have CI := Lib.hid (fun W => isInf0_any a W ha)
  rw [hi] at CI
  have CW := Lib.hid (fun W => fwhole_any hy W)
  rw [hw] at CW
  have CT := Lib.hid (fun W => times_any m W)
  clear ha hi hy hw m
  go_enter Try.func62, Try.ntmps62
  go_wp2_with fail
  refine (CI.out _).mono ?_
  rintro e w' ⟨rfl, rfl⟩
  go_wp2_with fail
  refine (CW.out _).mono ?_
  rintro e w' ⟨rfl, rfl⟩
  go_wp2_with fail
  refine (CL.out _).mono ?_
  rintro e w' ⟨rfl, rfl⟩
  go_wp2_with fail
  refine (CT.out _).mono ?_
  rintro e w' ⟨rfl, rfl⟩
  go_wp2_with fail
  refine (CE.out _).mono ?_
  rintro e w' ⟨rfl, rfl⟩
  go_wp2
  go_ret
  exact ⟨rfl, rfl⟩
set_option maxRecDepth 100000 in
set_option maxHeartbeats 1000000 in
theorem famount_far (a y l t u : Nat) (w : World) (ha : a < 18446744073709551616) (hi : finf a = false) (hz : (FloatKind.f64.format.order a 0 == some .eq) = false) (hy : Fin64 y) (hw : whl y = true) (hf : (FloatKind.f64.format.order (rung y) 4652218415073722368 == some .gt) = true) (m : Ieee.double.mul y l = some t) (CL : RowKit.Hid (∀ W : World, Calls Try.prog 13 #[.float .f64 a] W fun e w' => e = .returned (.float .f64 l) ∧ W = w')) (CE : RowKit.Hid (∀ W : World, Calls Try.prog 11 #[.float .f64 t] W fun e w' => e = .returned (.float .f64 u) ∧ W = w')) : Calls Try.prog 62 #[.float .f64 a, .float .f64 y] w fun e w' => e = .returned (.float .f64 u) ∧ w = w' := by
  have CI := Lib.hid (fun W => isInf0_any a W ha)
  rw [hi] at CI
  have CW := Lib.hid (fun W => fwhole_any hy W)
  rw [hw] at CW
  have CA := Lib.hid (fun W => nabs_any y W hy.1 (fnan_of hy))
  have CT := Lib.hid (fun W => times_any m W)
  clear ha hi hy hw m
  go_enter Try.func62, Try.ntmps62
  go_wp2_with fail
  refine (CI.out _).mono ?_
  rintro e w' ⟨rfl, rfl⟩
  go_wp2_with fail
  refine (CW.out _).mono ?_
  rintro e w' ⟨rfl, rfl⟩
  go_wp2_with fail
  refine (CA.out _).mono ?_
  rintro e w' ⟨rfl, rfl⟩
  go_wp2_with fail
  refine (CL.out _).mono ?_
  rintro e w' ⟨rfl, rfl⟩
  go_wp2_with fail
  refine (CT.out _).mono ?_
  rintro e w' ⟨rfl, rfl⟩
  go_wp2_with fail
  refine (CE.out _).mono ?_
  rintro e w' ⟨rfl, rfl⟩
  go_wp2
  go_ret
  exact ⟨rfl, rfl⟩
set_option maxRecDepth 100000 in
set_option maxHeartbeats 1000000 in
theorem famount_neg (a y n r u : Nat) (w : World) (ha : a < 18446744073709551616) (hi : finf a = false) (hz : (FloatKind.f64.format.order a 0 == some .eq) = false) (hy : Fin64 y) (hw : whl y = true) (hf : (FloatKind.f64.format.order (rung y) 4652218415073722368 == some .gt) = false) (hn : (FloatKind.f64.format.order y 0 == some .lt) = true) (hg : Op.negFloat .f64 y = rung y) (hc : ∀ W : World, (convert 22 3 (.float .f64 (rung y))).run Try.prog W = .ok (.int .i64 (n : Nat)) W) (CS : RowKit.Hid (∀ W : World, Calls Try.prog 79 #[.float .f64 a, .int .i64 (n : Nat)] W fun e w' => e = .returned (.float .f64 r) ∧ W = w')) (hd : Ieee.double.div 4607182418800017408 r = some u) : Calls Try.prog 62 #[.float .f64 a, .float .f64 y] w fun e w' => e = .returned (.float .f64 u) ∧ w = w' := by
  have CI := Lib.hid (fun W => isInf0_any a W ha)
  rw [hi] at CI
  have CW := Lib.hid (fun W => fwhole_any hy W)
  rw [hw] at CW
  have CA := Lib.hid (fun W => nabs_any y W hy.1 (fnan_of hy))
  have CN : ∀ W : World, (Op.unary UnOp.neg (.float .f64 y)).run Try.prog W = .ok (.float .f64 (rung y)) W := fun W => by rw [← hg]; rfl
  obtain ⟨z, hz2⟩ : ∃ z, rung y = z := ⟨_, rfl⟩
  rw [hz2] at hf hc CA CN
  have wd := wDiv hd
  clear ha hi hy hw hg hz2 hd
  go_enter Try.func62, Try.ntmps62
  go_wp2_with fail
  refine (CI.out _).mono ?_
  rintro e w' ⟨rfl, rfl⟩
  go_wp2_with fail
  refine (CW.out _).mono ?_
  rintro e w' ⟨rfl, rfl⟩
  go_wp2_with fail
  refine (CA.out _).mono ?_
  rintro e w' ⟨rfl, rfl⟩
  go_wp2_with fail
  refine (CS.out _).mono ?_
  rintro e w' ⟨rfl, rfl⟩
  go_wp2
  go_ret
  exact ⟨rfl, rfl⟩
set_option maxRecDepth 100000 in
set_option maxHeartbeats 1000000 in
theorem famount_pos (a y n u : Nat) (w : World) (ha : a < 18446744073709551616) (hi : finf a = false) (hz : (FloatKind.f64.format.order a 0 == some .eq) = false) (hy : Fin64 y) (hw : whl y = true) (hf : (FloatKind.f64.format.order (rung y) 4652218415073722368 == some .gt) = false) (hn : (FloatKind.f64.format.order y 0 == some .lt) = false) (hc : ∀ W : World, (convert 22 3 (.float .f64 y)).run Try.prog W = .ok (.int .i64 (n : Nat)) W) (CS : RowKit.Hid (∀ W : World, Calls Try.prog 79 #[.float .f64 a, .int .i64 (n : Nat)] W fun e w' => e = .returned (.float .f64 u) ∧ W = w')) : Calls Try.prog 62 #[.float .f64 a, .float .f64 y] w fun e w' => e = .returned (.float .f64 u) ∧ w = w' := by
  have CI := Lib.hid (fun W => isInf0_any a W ha)
  rw [hi] at CI
  have CW := Lib.hid (fun W => fwhole_any hy W)
  rw [hw] at CW
  have CA := Lib.hid (fun W => nabs_any y W hy.1 (fnan_of hy))
  clear ha hi hy hw
  go_enter Try.func62, Try.ntmps62
  go_wp2_with fail
  refine (CI.out _).mono ?_
  rintro e w' ⟨rfl, rfl⟩
  go_wp2_with fail
  refine (CW.out _).mono ?_
  rintro e w' ⟨rfl, rfl⟩
  go_wp2_with fail
  refine (CA.out _).mono ?_
  rintro e w' ⟨rfl, rfl⟩
  go_wp2_with fail
  refine (CS.out _).mono ?_
  rintro e w' ⟨rfl, rfl⟩
  go_wp2
  go_ret
  exact ⟨rfl, rfl⟩
set_option maxRecDepth 100000 in
set_option maxHeartbeats 1000000 in
theorem fPow_zero (x y a : Nat) (w : World) (CA : RowKit.Hid (∀ W : World, Calls Try.prog 51 #[.float .f64 x] W fun e w' => e = .returned (.float .f64 a) ∧ W = w')) (hy : (FloatKind.f64.format.order y 0 == some .eq) = true) : Calls Try.prog 30 #[.float .f64 x, .float .f64 y] w fun e w' => e = .returned (.float .f64 4607182418800017408) ∧ w = w' := by
  go_enter Try.func30, Try.ntmps30
  go_wp2_with fail
  refine (CA.out _).mono ?_
  rintro e w' ⟨rfl, rfl⟩
  go_wp2
  go_ret
  exact ⟨rfl, rfl⟩
set_option maxRecDepth 100000 in
set_option maxHeartbeats 1000000 in
theorem fPow_xnan (x y a : Nat) (w : World) (CA : RowKit.Hid (∀ W : World, Calls Try.prog 51 #[.float .f64 x] W fun e w' => e = .returned (.float .f64 a) ∧ W = w')) (hy : (FloatKind.f64.format.order y 0 == some .eq) = false) (nx : fnan x = true) : Calls Try.prog 30 #[.float .f64 x, .float .f64 y] w fun e w' => e = .returned (.float .f64 9221120237041090560) ∧ w = w' := by
  have CX := Lib.hid (fun W => isNaN_any x W)
  rw [nx] at CX
  have CQ := Lib.hid (fun W => const_any 9221120237041090560 W)
  clear nx
  go_enter Try.func30, Try.ntmps30
  go_wp2_with fail
  refine (CA.out _).mono ?_
  rintro e w' ⟨rfl, rfl⟩
  go_wp2_with fail
  refine (CX.out _).mono ?_
  rintro e w' ⟨rfl, rfl⟩
  go_wp2_with fail
  refine (CQ.out _).mono ?_
  rintro e w' ⟨rfl, rfl⟩
  go_wp2
  go_ret
  exact ⟨rfl, rfl⟩
set_option maxRecDepth 100000 in
set_option maxHeartbeats 1000000 in
theorem fPow_ynan (x y a : Nat) (w : World) (CA : RowKit.Hid (∀ W : World, Calls Try.prog 51 #[.float .f64 x] W fun e w' => e = .returned (.float .f64 a) ∧ W = w')) (hy : (FloatKind.f64.format.order y 0 == some .eq) = false) (nx : fnan x = false) (ny : fnan y = true) : Calls Try.prog 30 #[.float .f64 x, .float .f64 y] w fun e w' => e = .returned (.float .f64 9221120237041090560) ∧ w = w' := by
  have CX := Lib.hid (fun W => isNaN_any x W)
  rw [nx] at CX
  have CY := Lib.hid (fun W => isNaN_any y W)
  rw [ny] at CY
  have CQ := Lib.hid (fun W => const_any 9221120237041090560 W)
  clear nx ny
  go_enter Try.func30, Try.ntmps30
  go_wp2_with fail
  refine (CA.out _).mono ?_
  rintro e w' ⟨rfl, rfl⟩
  go_wp2_with fail
  refine (CX.out _).mono ?_
  rintro e w' ⟨rfl, rfl⟩
  go_wp2_with fail
  refine (CY.out _).mono ?_
  rintro e w' ⟨rfl, rfl⟩
  go_wp2_with fail
  refine (CQ.out _).mono ?_
  rintro e w' ⟨rfl, rfl⟩
  go_wp2
  go_ret
  exact ⟨rfl, rfl⟩
set_option maxRecDepth 100000 in
set_option maxHeartbeats 1000000 in
theorem fPow_yinf (x y a : Nat) (w : World) (CA : RowKit.Hid (∀ W : World, Calls Try.prog 51 #[.float .f64 x] W fun e w' => e = .returned (.float .f64 a) ∧ W = w')) (hy : (FloatKind.f64.format.order y 0 == some .eq) = false) (nx : fnan x = false) (ny : fnan y = false) (hyw : y < 18446744073709551616) (iy : finf y = true) : Calls Try.prog 30 #[.float .f64 x, .float .f64 y] w fun e w' => e = .returned (.float .f64 (endV a y)) ∧ w = w' := by
  have CX := Lib.hid (fun W => isNaN_any x W)
  rw [nx] at CX
  have CY := Lib.hid (fun W => isNaN_any y W)
  rw [ny] at CY
  have CI := Lib.hid (fun W => isInf0_any y W hyw)
  rw [iy] at CI
  have CE := Lib.hid (fun W => fendless_any a y W)
  obtain ⟨r, hr⟩ : ∃ r, endV a y = r := ⟨_, rfl⟩
  rw [hr] at CE ⊢
  clear nx ny hyw iy hr
  go_enter Try.func30, Try.ntmps30
  go_wp2_with fail
  refine (CA.out _).mono ?_
  rintro e w' ⟨rfl, rfl⟩
  go_wp2_with fail
  refine (CX.out _).mono ?_
  rintro e w' ⟨rfl, rfl⟩
  go_wp2_with fail
  refine (CY.out _).mono ?_
  rintro e w' ⟨rfl, rfl⟩
  go_wp2_with fail
  refine (CI.out _).mono ?_
  rintro e w' ⟨rfl, rfl⟩
  go_wp2_with fail
  refine (CE.out _).mono ?_
  rintro e w' ⟨rfl, rfl⟩
  go_wp2
  go_ret
  exact ⟨rfl, rfl⟩
set_option maxRecDepth 100000 in
set_option maxHeartbeats 1000000 in
theorem fPow_root (x y a : Nat) (w : World) (CA : RowKit.Hid (∀ W : World, Calls Try.prog 51 #[.float .f64 x] W fun e w' => e = .returned (.float .f64 a) ∧ W = w')) (hy : (FloatKind.f64.format.order y 0 == some .eq) = false) (nx : fnan x = false) (ny : fnan y = false) (hyw : y < 18446744073709551616) (iy : finf y = false) (hxw : x < 18446744073709551616) (hF : Fin64 y) (lx : (FloatKind.f64.format.order x 0 == some .lt) = true) (ix : finf x = false) (wy : whl y = false) : Calls Try.prog 30 #[.float .f64 x, .float .f64 y] w fun e w' => e = .returned (.float .f64 9221120237041090560) ∧ w = w' := by
  have CX := Lib.hid (fun W => isNaN_any x W)
  rw [nx] at CX
  have CY := Lib.hid (fun W => isNaN_any y W)
  rw [ny] at CY
  have CI := Lib.hid (fun W => isInf0_any y W hyw)
  rw [iy] at CI
  have CJ := Lib.hid (fun W => isInf0_any x W hxw)
  rw [ix] at CJ
  have CW := Lib.hid (fun W => fwhole_any hF W)
  rw [wy] at CW
  have CQ := Lib.hid (fun W => const_any 9221120237041090560 W)
  clear nx ny hyw iy hxw ix wy hF
  go_enter Try.func30, Try.ntmps30
  go_wp2_with fail
  refine (CA.out _).mono ?_
  rintro e w' ⟨rfl, rfl⟩
  go_wp2_with fail
  refine (CX.out _).mono ?_
  rintro e w' ⟨rfl, rfl⟩
  go_wp2_with fail
  refine (CY.out _).mono ?_
  rintro e w' ⟨rfl, rfl⟩
  go_wp2_with fail
  refine (CI.out _).mono ?_
  rintro e w' ⟨rfl, rfl⟩
  go_wp2_with fail
  refine (CJ.out _).mono ?_
  rintro e w' ⟨rfl, rfl⟩
  go_wp2_with fail
  refine (CW.out _).mono ?_
  rintro e w' ⟨rfl, rfl⟩
  go_wp2_with fail
  refine (CQ.out _).mono ?_
  rintro e w' ⟨rfl, rfl⟩
  go_wp2
  go_ret
  exact ⟨rfl, rfl⟩
set_option maxRecDepth 100000 in
set_option maxHeartbeats 1000000 in
theorem fPow_a_pos (x y a r : Nat) (w : World) (CA : RowKit.Hid (∀ W : World, Calls Try.prog 51 #[.float .f64 x] W fun e w' => e = .returned (.float .f64 a) ∧ W = w')) (hy : (FloatKind.f64.format.order y 0 == some .eq) = false) (nx : fnan x = false) (ny : fnan y = false) (hyw : y < 18446744073709551616) (iy : finf y = false) (hxw : x < 18446744073709551616) (lx : (FloatKind.f64.format.order x 0 == some .lt) = false) (CM : RowKit.Hid (∀ W : World, Calls Try.prog 62 #[.float .f64 a, .float .f64 y] W fun e w' => e = .returned (.float .f64 r) ∧ W = w')) (sx : fneg x = false) : Calls Try.prog 30 #[.float .f64 x, .float .f64 y] w fun e w' => e = .returned (.float .f64 r) ∧ w = w' := by
  have CX := Lib.hid (fun W => isNaN_any x W)
  rw [nx] at CX
  have CY := Lib.hid (fun W => isNaN_any y W)
  rw [ny] at CY
  have CI := Lib.hid (fun W => isInf0_any y W hyw)
  rw [iy] at CI
  have CS := Lib.hid (fun W => signbit_any x W hxw)
  rw [sx] at CS
  clear nx ny hyw iy hxw sx
  go_enter Try.func30, Try.ntmps30
  go_wp2_with fail
  refine (CA.out _).mono ?_
  rintro e w' ⟨rfl, rfl⟩
  go_wp2_with fail
  refine (CX.out _).mono ?_
  rintro e w' ⟨rfl, rfl⟩
  go_wp2_with fail
  refine (CY.out _).mono ?_
  rintro e w' ⟨rfl, rfl⟩
  go_wp2_with fail
  refine (CI.out _).mono ?_
  rintro e w' ⟨rfl, rfl⟩
  go_wp2_with fail
  refine (CM.out _).mono ?_
  rintro e w' ⟨rfl, rfl⟩
  go_wp2_with fail
  refine (CS.out _).mono ?_
  rintro e w' ⟨rfl, rfl⟩
  go_wp2
  go_ret
  exact ⟨rfl, rfl⟩
set_option maxRecDepth 100000 in
set_option maxHeartbeats 1000000 in
theorem fPow_a_even (x y a r : Nat) (w : World) (CA : RowKit.Hid (∀ W : World, Calls Try.prog 51 #[.float .f64 x] W fun e w' => e = .returned (.float .f64 a) ∧ W = w')) (hy : (FloatKind.f64.format.order y 0 == some .eq) = false) (nx : fnan x = false) (ny : fnan y = false) (hyw : y < 18446744073709551616) (iy : finf y = false) (hxw : x < 18446744073709551616) (hF : Fin64 y) (lx : (FloatKind.f64.format.order x 0 == some .lt) = false) (CM : RowKit.Hid (∀ W : World, Calls Try.prog 62 #[.float .f64 a, .float .f64 y] W fun e w' => e = .returned (.float .f64 r) ∧ W = w')) (sx : fneg x = true) (od : oddb y = false) : Calls Try.prog 30 #[.float .f64 x, .float .f64 y] w fun e w' => e = .returned (.float .f64 r) ∧ w = w' := by
  have CX := Lib.hid (fun W => isNaN_any x W)
  rw [nx] at CX
  have CY := Lib.hid (fun W => isNaN_any y W)
  rw [ny] at CY
  have CI := Lib.hid (fun W => isInf0_any y W hyw)
  rw [iy] at CI
  have CS := Lib.hid (fun W => signbit_any x W hxw)
  rw [sx] at CS
  have CO := Lib.hid (fun W => fodd_any hF W)
  rw [od] at CO
  clear nx ny hyw iy hxw hF sx od
  go_enter Try.func30, Try.ntmps30
  go_wp2_with fail
  refine (CA.out _).mono ?_
  rintro e w' ⟨rfl, rfl⟩
  go_wp2_with fail
  refine (CX.out _).mono ?_
  rintro e w' ⟨rfl, rfl⟩
  go_wp2_with fail
  refine (CY.out _).mono ?_
  rintro e w' ⟨rfl, rfl⟩
  go_wp2_with fail
  refine (CI.out _).mono ?_
  rintro e w' ⟨rfl, rfl⟩
  go_wp2_with fail
  refine (CM.out _).mono ?_
  rintro e w' ⟨rfl, rfl⟩
  go_wp2_with fail
  refine (CS.out _).mono ?_
  rintro e w' ⟨rfl, rfl⟩
  go_wp2_with fail
  refine (CO.out _).mono ?_
  rintro e w' ⟨rfl, rfl⟩
  go_wp2
  go_ret
  exact ⟨rfl, rfl⟩
set_option maxRecDepth 100000 in
set_option maxHeartbeats 1000000 in
theorem fPow_a_odd (x y a r : Nat) (w : World) (CA : RowKit.Hid (∀ W : World, Calls Try.prog 51 #[.float .f64 x] W fun e w' => e = .returned (.float .f64 a) ∧ W = w')) (hy : (FloatKind.f64.format.order y 0 == some .eq) = false) (nx : fnan x = false) (ny : fnan y = false) (hyw : y < 18446744073709551616) (iy : finf y = false) (hxw : x < 18446744073709551616) (hF : Fin64 y) (lx : (FloatKind.f64.format.order x 0 == some .lt) = false) (CM : RowKit.Hid (∀ W : World, Calls Try.prog 62 #[.float .f64 a, .float .f64 y] W fun e w' => e = .returned (.float .f64 r) ∧ W = w')) (sx : fneg x = true) (od : oddb y = true) : Calls Try.prog 30 #[.float .f64 x, .float .f64 y] w fun e w' => e = .returned (.float .f64 (Op.negFloat .f64 r)) ∧ w = w' := by
  have CX := Lib.hid (fun W => isNaN_any x W)
  rw [nx] at CX
  have CY := Lib.hid (fun W => isNaN_any y W)
  rw [ny] at CY
  have CI := Lib.hid (fun W => isInf0_any y W hyw)
  rw [iy] at CI
  have CS := Lib.hid (fun W => signbit_any x W hxw)
  rw [sx] at CS
  have CO := Lib.hid (fun W => fodd_any hF W)
  rw [od] at CO
  have CN : ∀ W : World, (Op.unary UnOp.neg (.float .f64 r)).run Try.prog W = .ok (.float .f64 (Op.negFloat .f64 r)) W := fun W => rfl
  obtain ⟨z, hz⟩ : ∃ z, Op.negFloat .f64 r = z := ⟨_, rfl⟩
  rw [hz] at CN ⊢
  clear nx ny hyw iy hxw hF sx od hz
  go_enter Try.func30, Try.ntmps30
  go_wp2_with fail
  refine (CA.out _).mono ?_
  rintro e w' ⟨rfl, rfl⟩
  go_wp2_with fail
  refine (CX.out _).mono ?_
  rintro e w' ⟨rfl, rfl⟩
  go_wp2_with fail
  refine (CY.out _).mono ?_
  rintro e w' ⟨rfl, rfl⟩
  go_wp2_with fail
  refine (CI.out _).mono ?_
  rintro e w' ⟨rfl, rfl⟩
  go_wp2_with fail
  refine (CM.out _).mono ?_
  rintro e w' ⟨rfl, rfl⟩
  go_wp2_with fail
  refine (CS.out _).mono ?_
  rintro e w' ⟨rfl, rfl⟩
  go_wp2_with fail
  refine (CO.out _).mono ?_
  rintro e w' ⟨rfl, rfl⟩
  go_wp2
  go_ret
  exact ⟨rfl, rfl⟩
set_option maxRecDepth 100000 in
set_option maxHeartbeats 1000000 in
theorem fPow_b_even (x y a r : Nat) (w : World) (CA : RowKit.Hid (∀ W : World, Calls Try.prog 51 #[.float .f64 x] W fun e w' => e = .returned (.float .f64 a) ∧ W = w')) (hy : (FloatKind.f64.format.order y 0 == some .eq) = false) (nx : fnan x = false) (ny : fnan y = false) (hyw : y < 18446744073709551616) (iy : finf y = false) (hxw : x < 18446744073709551616) (hF : Fin64 y) (lx : (FloatKind.f64.format.order x 0 == some .lt) = true) (ix : finf x = true) (CM : RowKit.Hid (∀ W : World, Calls Try.prog 62 #[.float .f64 a, .float .f64 y] W fun e w' => e = .returned (.float .f64 r) ∧ W = w')) (sx : fneg x = true) (od : oddb y = false) : Calls Try.prog 30 #[.float .f64 x, .float .f64 y] w fun e w' => e = .returned (.float .f64 r) ∧ w = w' := by
  have CX := Lib.hid (fun W => isNaN_any x W)
  rw [nx] at CX
  have CY := Lib.hid (fun W => isNaN_any y W)
  rw [ny] at CY
  have CI := Lib.hid (fun W => isInf0_any y W hyw)
  rw [iy] at CI
  have CJ := Lib.hid (fun W => isInf0_any x W hxw)
  rw [ix] at CJ
  have CS := Lib.hid (fun W => signbit_any x W hxw)
  rw [sx] at CS
  have CO := Lib.hid (fun W => fodd_any hF W)
  rw [od] at CO
  clear nx ny hyw iy hxw hF ix sx od
  go_enter Try.func30, Try.ntmps30
  go_wp2_with fail
  refine (CA.out _).mono ?_
  rintro e w' ⟨rfl, rfl⟩
  go_wp2_with fail
  refine (CX.out _).mono ?_
  rintro e w' ⟨rfl, rfl⟩
  go_wp2_with fail
  refine (CY.out _).mono ?_
  rintro e w' ⟨rfl, rfl⟩
  go_wp2_with fail
  refine (CI.out _).mono ?_
  rintro e w' ⟨rfl, rfl⟩
  go_wp2_with fail
  refine (CJ.out _).mono ?_
  rintro e w' ⟨rfl, rfl⟩
  go_wp2_with fail
  refine (CM.out _).mono ?_
  rintro e w' ⟨rfl, rfl⟩
  go_wp2_with fail
  refine (CS.out _).mono ?_
  rintro e w' ⟨rfl, rfl⟩
  go_wp2_with fail
  refine (CO.out _).mono ?_
  rintro e w' ⟨rfl, rfl⟩
  go_wp2
  go_ret
  exact ⟨rfl, rfl⟩
set_option maxRecDepth 100000 in
set_option maxHeartbeats 1000000 in
theorem fPow_b_odd (x y a r : Nat) (w : World) (CA : RowKit.Hid (∀ W : World, Calls Try.prog 51 #[.float .f64 x] W fun e w' => e = .returned (.float .f64 a) ∧ W = w')) (hy : (FloatKind.f64.format.order y 0 == some .eq) = false) (nx : fnan x = false) (ny : fnan y = false) (hyw : y < 18446744073709551616) (iy : finf y = false) (hxw : x < 18446744073709551616) (hF : Fin64 y) (lx : (FloatKind.f64.format.order x 0 == some .lt) = true) (ix : finf x = true) (CM : RowKit.Hid (∀ W : World, Calls Try.prog 62 #[.float .f64 a, .float .f64 y] W fun e w' => e = .returned (.float .f64 r) ∧ W = w')) (sx : fneg x = true) (od : oddb y = true) : Calls Try.prog 30 #[.float .f64 x, .float .f64 y] w fun e w' => e = .returned (.float .f64 (Op.negFloat .f64 r)) ∧ w = w' := by
  have CX := Lib.hid (fun W => isNaN_any x W)
  rw [nx] at CX
  have CY := Lib.hid (fun W => isNaN_any y W)
  rw [ny] at CY
  have CI := Lib.hid (fun W => isInf0_any y W hyw)
  rw [iy] at CI
  have CJ := Lib.hid (fun W => isInf0_any x W hxw)
  rw [ix] at CJ
  have CS := Lib.hid (fun W => signbit_any x W hxw)
  rw [sx] at CS
  have CO := Lib.hid (fun W => fodd_any hF W)
  rw [od] at CO
  have CN : ∀ W : World, (Op.unary UnOp.neg (.float .f64 r)).run Try.prog W = .ok (.float .f64 (Op.negFloat .f64 r)) W := fun W => rfl
  obtain ⟨z, hz⟩ : ∃ z, Op.negFloat .f64 r = z := ⟨_, rfl⟩
  rw [hz] at CN ⊢
  clear nx ny hyw iy hxw hF ix sx od hz
  go_enter Try.func30, Try.ntmps30
  go_wp2_with fail
  refine (CA.out _).mono ?_
  rintro e w' ⟨rfl, rfl⟩
  go_wp2_with fail
  refine (CX.out _).mono ?_
  rintro e w' ⟨rfl, rfl⟩
  go_wp2_with fail
  refine (CY.out _).mono ?_
  rintro e w' ⟨rfl, rfl⟩
  go_wp2_with fail
  refine (CI.out _).mono ?_
  rintro e w' ⟨rfl, rfl⟩
  go_wp2_with fail
  refine (CJ.out _).mono ?_
  rintro e w' ⟨rfl, rfl⟩
  go_wp2_with fail
  refine (CM.out _).mono ?_
  rintro e w' ⟨rfl, rfl⟩
  go_wp2_with fail
  refine (CS.out _).mono ?_
  rintro e w' ⟨rfl, rfl⟩
  go_wp2_with fail
  refine (CO.out _).mono ?_
  rintro e w' ⟨rfl, rfl⟩
  go_wp2
  go_ret
  exact ⟨rfl, rfl⟩
set_option maxRecDepth 100000 in
set_option maxHeartbeats 1000000 in
theorem fPow_c_even (x y a r : Nat) (w : World) (CA : RowKit.Hid (∀ W : World, Calls Try.prog 51 #[.float .f64 x] W fun e w' => e = .returned (.float .f64 a) ∧ W = w')) (hy : (FloatKind.f64.format.order y 0 == some .eq) = false) (nx : fnan x = false) (ny : fnan y = false) (hyw : y < 18446744073709551616) (iy : finf y = false) (hxw : x < 18446744073709551616) (hF : Fin64 y) (lx : (FloatKind.f64.format.order x 0 == some .lt) = true) (ix : finf x = false) (wy : whl y = true) (CM : RowKit.Hid (∀ W : World, Calls Try.prog 62 #[.float .f64 a, .float .f64 y] W fun e w' => e = .returned (.float .f64 r) ∧ W = w')) (sx : fneg x = true) (od : oddb y = false) : Calls Try.prog 30 #[.float .f64 x, .float .f64 y] w fun e w' => e = .returned (.float .f64 r) ∧ w = w' := by
  have CX := Lib.hid (fun W => isNaN_any x W)
  rw [nx] at CX
  have CY := Lib.hid (fun W => isNaN_any y W)
  rw [ny] at CY
  have CI := Lib.hid (fun W => isInf0_any y W hyw)
  rw [iy] at CI
  have CJ := Lib.hid (fun W => isInf0_any x W hxw)
  rw [ix] at CJ
  have CW := Lib.hid (fun W => fwhole_any hF W)
  rw [wy] at CW
  have CS := Lib.hid (fun W => signbit_any x W hxw)
  rw [sx] at CS
  have CO := Lib.hid (fun W => fodd_any hF W)
  rw [od] at CO
  clear nx ny hyw iy hxw hF ix wy sx od
  go_enter Try.func30, Try.ntmps30
  go_wp2_with fail
  refine (CA.out _).mono ?_
  rintro e w' ⟨rfl, rfl⟩
  go_wp2_with fail
  refine (CX.out _).mono ?_
  rintro e w' ⟨rfl, rfl⟩
  go_wp2_with fail
  refine (CY.out _).mono ?_
  rintro e w' ⟨rfl, rfl⟩
  go_wp2_with fail
  refine (CI.out _).mono ?_
  rintro e w' ⟨rfl, rfl⟩
  go_wp2_with fail
  refine (CJ.out _).mono ?_
  rintro e w' ⟨rfl, rfl⟩
  go_wp2_with fail
  refine (CW.out _).mono ?_
  rintro e w' ⟨rfl, rfl⟩
  go_wp2_with fail
  refine (CM.out _).mono ?_
  rintro e w' ⟨rfl, rfl⟩
  go_wp2_with fail
  refine (CS.out _).mono ?_
  rintro e w' ⟨rfl, rfl⟩
  go_wp2_with fail
  refine (CO.out _).mono ?_
  rintro e w' ⟨rfl, rfl⟩
  go_wp2
  go_ret
  exact ⟨rfl, rfl⟩
set_option maxRecDepth 100000 in
set_option maxHeartbeats 1000000 in
theorem fPow_c_odd (x y a r : Nat) (w : World) (CA : RowKit.Hid (∀ W : World, Calls Try.prog 51 #[.float .f64 x] W fun e w' => e = .returned (.float .f64 a) ∧ W = w')) (hy : (FloatKind.f64.format.order y 0 == some .eq) = false) (nx : fnan x = false) (ny : fnan y = false) (hyw : y < 18446744073709551616) (iy : finf y = false) (hxw : x < 18446744073709551616) (hF : Fin64 y) (lx : (FloatKind.f64.format.order x 0 == some .lt) = true) (ix : finf x = false) (wy : whl y = true) (CM : RowKit.Hid (∀ W : World, Calls Try.prog 62 #[.float .f64 a, .float .f64 y] W fun e w' => e = .returned (.float .f64 r) ∧ W = w')) (sx : fneg x = true) (od : oddb y = true) : Calls Try.prog 30 #[.float .f64 x, .float .f64 y] w fun e w' => e = .returned (.float .f64 (Op.negFloat .f64 r)) ∧ w = w' := by
  have CX := Lib.hid (fun W => isNaN_any x W)
  rw [nx] at CX
  have CY := Lib.hid (fun W => isNaN_any y W)
  rw [ny] at CY
  have CI := Lib.hid (fun W => isInf0_any y W hyw)
  rw [iy] at CI
  have CJ := Lib.hid (fun W => isInf0_any x W hxw)
  rw [ix] at CJ
  have CW := Lib.hid (fun W => fwhole_any hF W)
  rw [wy] at CW
  have CS := Lib.hid (fun W => signbit_any x W hxw)
  rw [sx] at CS
  have CO := Lib.hid (fun W => fodd_any hF W)
  rw [od] at CO
  have CN : ∀ W : World, (Op.unary UnOp.neg (.float .f64 r)).run Try.prog W = .ok (.float .f64 (Op.negFloat .f64 r)) W := fun W => rfl
  obtain ⟨z, hz⟩ : ∃ z, Op.negFloat .f64 r = z := ⟨_, rfl⟩
  rw [hz] at CN ⊢
  clear nx ny hyw iy hxw hF ix wy sx od hz
  go_enter Try.func30, Try.ntmps30
  go_wp2_with fail
  refine (CA.out _).mono ?_
  rintro e w' ⟨rfl, rfl⟩
  go_wp2_with fail
  refine (CX.out _).mono ?_
  rintro e w' ⟨rfl, rfl⟩
  go_wp2_with fail
  refine (CY.out _).mono ?_
  rintro e w' ⟨rfl, rfl⟩
  go_wp2_with fail
  refine (CI.out _).mono ?_
  rintro e w' ⟨rfl, rfl⟩
  go_wp2_with fail
  refine (CJ.out _).mono ?_
  rintro e w' ⟨rfl, rfl⟩
  go_wp2_with fail
  refine (CW.out _).mono ?_
  rintro e w' ⟨rfl, rfl⟩
  go_wp2_with fail
  refine (CM.out _).mono ?_
  rintro e w' ⟨rfl, rfl⟩
  go_wp2_with fail
  refine (CS.out _).mono ?_
  rintro e w' ⟨rfl, rfl⟩
  go_wp2_with fail
  refine (CO.out _).mono ?_
  rintro e w' ⟨rfl, rfl⟩
  go_wp2
  go_ret
  exact ⟨rfl, rfl⟩
set_option maxRecDepth 100000 in
set_option maxHeartbeats 1000000 in
theorem vPow_ynan_p (x y : Nat) (w : World) (hxw : x < 18446744073709551616) (sx : fneg x = false) (ny : fnan y = true) : Calls Try.prog 31 #[.float .f64 x, .float .f64 y] w fun e w' => e = .returned (.float .f64 9221120237041090560) ∧ w = w' := by
  have CA := Lib.hid (fun W => abs_any x W hxw)
  have CS := Lib.hid (fun W => signbit_any x W hxw)
  rw [sx] at CS
  obtain ⟨a, ha⟩ : ∃ a, rung x = a := ⟨_, rfl⟩
  have CY := Lib.hid (fun W => isNaN_any y W)
  rw [ny] at CY
  have CQ := Lib.hid (fun W => vnan_any W)
  rw [ha] at CA
  clear sx ny hxw ha
  go_enter Try.func31, Try.ntmps31
  go_wp2_with fail
  refine (CA.out _).mono ?_
  rintro e w' ⟨rfl, rfl⟩
  go_wp2_with fail
  refine (CS.out _).mono ?_
  rintro e w' ⟨rfl, rfl⟩
  go_wp2_with fail
  refine (CY.out _).mono ?_
  rintro e w' ⟨rfl, rfl⟩
  go_wp2_with fail
  refine (CQ.out _).mono ?_
  rintro e w' ⟨rfl, rfl⟩
  go_wp2
  go_ret
  exact ⟨rfl, rfl⟩
set_option maxRecDepth 100000 in
set_option maxHeartbeats 1000000 in
theorem vPow_ynan_e (x y : Nat) (w : World) (hxw : x < 18446744073709551616) (sx : fneg x = true) (CO : RowKit.Hid (∀ W : World, Calls Try.prog 64 #[.float .f64 y] W fun e w' => e = .returned (.bool false) ∧ W = w')) (ny : fnan y = true) : Calls Try.prog 31 #[.float .f64 x, .float .f64 y] w fun e w' => e = .returned (.float .f64 9221120237041090560) ∧ w = w' := by
  have CA := Lib.hid (fun W => abs_any x W hxw)
  have CS := Lib.hid (fun W => signbit_any x W hxw)
  rw [sx] at CS
  obtain ⟨a, ha⟩ : ∃ a, rung x = a := ⟨_, rfl⟩
  have CY := Lib.hid (fun W => isNaN_any y W)
  rw [ny] at CY
  have CQ := Lib.hid (fun W => vnan_any W)
  rw [ha] at CA
  clear sx ny hxw ha
  go_enter Try.func31, Try.ntmps31
  go_wp2_with fail
  refine (CA.out _).mono ?_
  rintro e w' ⟨rfl, rfl⟩
  go_wp2_with fail
  refine (CS.out _).mono ?_
  rintro e w' ⟨rfl, rfl⟩
  go_wp2_with fail
  refine (CO.out _).mono ?_
  rintro e w' ⟨rfl, rfl⟩
  go_wp2_with fail
  refine (CY.out _).mono ?_
  rintro e w' ⟨rfl, rfl⟩
  go_wp2_with fail
  refine (CQ.out _).mono ?_
  rintro e w' ⟨rfl, rfl⟩
  go_wp2
  go_ret
  exact ⟨rfl, rfl⟩
set_option maxRecDepth 100000 in
set_option maxHeartbeats 1000000 in
theorem vPow_ynan_o (x y : Nat) (w : World) (hxw : x < 18446744073709551616) (sx : fneg x = true) (CO : RowKit.Hid (∀ W : World, Calls Try.prog 64 #[.float .f64 y] W fun e w' => e = .returned (.bool true) ∧ W = w')) (ny : fnan y = true) : Calls Try.prog 31 #[.float .f64 x, .float .f64 y] w fun e w' => e = .returned (.float .f64 9221120237041090560) ∧ w = w' := by
  have CA := Lib.hid (fun W => abs_any x W hxw)
  have CS := Lib.hid (fun W => signbit_any x W hxw)
  rw [sx] at CS
  obtain ⟨a, ha⟩ : ∃ a, rung x = a := ⟨_, rfl⟩
  have CY := Lib.hid (fun W => isNaN_any y W)
  rw [ny] at CY
  have CQ := Lib.hid (fun W => vnan_any W)
  rw [ha] at CA
  clear sx ny hxw ha
  go_enter Try.func31, Try.ntmps31
  go_wp2_with fail
  refine (CA.out _).mono ?_
  rintro e w' ⟨rfl, rfl⟩
  go_wp2_with fail
  refine (CS.out _).mono ?_
  rintro e w' ⟨rfl, rfl⟩
  go_wp2_with fail
  refine (CO.out _).mono ?_
  rintro e w' ⟨rfl, rfl⟩
  go_wp2_with fail
  refine (CY.out _).mono ?_
  rintro e w' ⟨rfl, rfl⟩
  go_wp2_with fail
  refine (CQ.out _).mono ?_
  rintro e w' ⟨rfl, rfl⟩
  go_wp2
  go_ret
  exact ⟨rfl, rfl⟩
set_option maxRecDepth 100000 in
set_option maxHeartbeats 1000000 in
theorem vPow_zero_p (x y : Nat) (w : World) (hxw : x < 18446744073709551616) (sx : fneg x = false) (ny : fnan y = false) (hy : (FloatKind.f64.format.order y 0 == some .eq) = true) : Calls Try.prog 31 #[.float .f64 x, .float .f64 y] w fun e w' => e = .returned (.float .f64 4607182418800017408) ∧ w = w' := by
  have CA := Lib.hid (fun W => abs_any x W hxw)
  have CS := Lib.hid (fun W => signbit_any x W hxw)
  rw [sx] at CS
  obtain ⟨a, ha⟩ : ∃ a, rung x = a := ⟨_, rfl⟩
  have CY := Lib.hid (fun W => isNaN_any y W)
  rw [ny] at CY
  rw [ha] at CA
  clear sx ny hxw ha
  go_enter Try.func31, Try.ntmps31
  go_wp2_with fail
  refine (CA.out _).mono ?_
  rintro e w' ⟨rfl, rfl⟩
  go_wp2_with fail
  refine (CS.out _).mono ?_
  rintro e w' ⟨rfl, rfl⟩
  go_wp2_with fail
  refine (CY.out _).mono ?_
  rintro e w' ⟨rfl, rfl⟩
  go_wp2
  go_ret
  exact ⟨rfl, rfl⟩
set_option maxRecDepth 100000 in
set_option maxHeartbeats 1000000 in
theorem vPow_zero_e (x y : Nat) (w : World) (hxw : x < 18446744073709551616) (sx : fneg x = true) (CO : RowKit.Hid (∀ W : World, Calls Try.prog 64 #[.float .f64 y] W fun e w' => e = .returned (.bool false) ∧ W = w')) (ny : fnan y = false) (hy : (FloatKind.f64.format.order y 0 == some .eq) = true) : Calls Try.prog 31 #[.float .f64 x, .float .f64 y] w fun e w' => e = .returned (.float .f64 4607182418800017408) ∧ w = w' := by
  have CA := Lib.hid (fun W => abs_any x W hxw)
  have CS := Lib.hid (fun W => signbit_any x W hxw)
  rw [sx] at CS
  obtain ⟨a, ha⟩ : ∃ a, rung x = a := ⟨_, rfl⟩
  have CY := Lib.hid (fun W => isNaN_any y W)
  rw [ny] at CY
  rw [ha] at CA
  clear sx ny hxw ha
  go_enter Try.func31, Try.ntmps31
  go_wp2_with fail
  refine (CA.out _).mono ?_
  rintro e w' ⟨rfl, rfl⟩
  go_wp2_with fail
  refine (CS.out _).mono ?_
  rintro e w' ⟨rfl, rfl⟩
  go_wp2_with fail
  refine (CO.out _).mono ?_
  rintro e w' ⟨rfl, rfl⟩
  go_wp2_with fail
  refine (CY.out _).mono ?_
  rintro e w' ⟨rfl, rfl⟩
  go_wp2
  go_ret
  exact ⟨rfl, rfl⟩
set_option maxRecDepth 100000 in
set_option maxHeartbeats 1000000 in
theorem vPow_zero_o (x y : Nat) (w : World) (hxw : x < 18446744073709551616) (sx : fneg x = true) (CO : RowKit.Hid (∀ W : World, Calls Try.prog 64 #[.float .f64 y] W fun e w' => e = .returned (.bool true) ∧ W = w')) (ny : fnan y = false) (hy : (FloatKind.f64.format.order y 0 == some .eq) = true) : Calls Try.prog 31 #[.float .f64 x, .float .f64 y] w fun e w' => e = .returned (.float .f64 4607182418800017408) ∧ w = w' := by
  have CA := Lib.hid (fun W => abs_any x W hxw)
  have CS := Lib.hid (fun W => signbit_any x W hxw)
  rw [sx] at CS
  obtain ⟨a, ha⟩ : ∃ a, rung x = a := ⟨_, rfl⟩
  have CY := Lib.hid (fun W => isNaN_any y W)
  rw [ny] at CY
  rw [ha] at CA
  clear sx ny hxw ha
  go_enter Try.func31, Try.ntmps31
  go_wp2_with fail
  refine (CA.out _).mono ?_
  rintro e w' ⟨rfl, rfl⟩
  go_wp2_with fail
  refine (CS.out _).mono ?_
  rintro e w' ⟨rfl, rfl⟩
  go_wp2_with fail
  refine (CO.out _).mono ?_
  rintro e w' ⟨rfl, rfl⟩
  go_wp2_with fail
  refine (CY.out _).mono ?_
  rintro e w' ⟨rfl, rfl⟩
  go_wp2
  go_ret
  exact ⟨rfl, rfl⟩
set_option maxRecDepth 100000 in
set_option maxHeartbeats 1000000 in
theorem vPow_xnan_p (x y : Nat) (w : World) (hxw : x < 18446744073709551616) (sx : fneg x = false) (ny : fnan y = false) (hy : (FloatKind.f64.format.order y 0 == some .eq) = false) (nx : fnan x = true) : Calls Try.prog 31 #[.float .f64 x, .float .f64 y] w fun e w' => e = .returned (.float .f64 9221120237041090560) ∧ w = w' := by
  have CA := Lib.hid (fun W => abs_any x W hxw)
  have CS := Lib.hid (fun W => signbit_any x W hxw)
  rw [sx] at CS
  obtain ⟨a, ha⟩ : ∃ a, rung x = a := ⟨_, rfl⟩
  have CY := Lib.hid (fun W => isNaN_any y W)
  rw [ny] at CY
  have CX := Lib.hid (fun W => isNaN_any x W)
  rw [nx] at CX
  have CQ := Lib.hid (fun W => vnan_any W)
  rw [ha] at CA
  clear sx ny hxw nx ha
  go_enter Try.func31, Try.ntmps31
  go_wp2_with fail
  refine (CA.out _).mono ?_
  rintro e w' ⟨rfl, rfl⟩
  go_wp2_with fail
  refine (CS.out _).mono ?_
  rintro e w' ⟨rfl, rfl⟩
  go_wp2_with fail
  refine (CY.out _).mono ?_
  rintro e w' ⟨rfl, rfl⟩
  go_wp2_with fail
  refine (CX.out _).mono ?_
  rintro e w' ⟨rfl, rfl⟩
  go_wp2_with fail
  refine (CQ.out _).mono ?_
  rintro e w' ⟨rfl, rfl⟩
  go_wp2
  go_ret
  exact ⟨rfl, rfl⟩
set_option maxRecDepth 100000 in
set_option maxHeartbeats 1000000 in
theorem vPow_xnan_e (x y : Nat) (w : World) (hxw : x < 18446744073709551616) (sx : fneg x = true) (CO : RowKit.Hid (∀ W : World, Calls Try.prog 64 #[.float .f64 y] W fun e w' => e = .returned (.bool false) ∧ W = w')) (ny : fnan y = false) (hy : (FloatKind.f64.format.order y 0 == some .eq) = false) (nx : fnan x = true) : Calls Try.prog 31 #[.float .f64 x, .float .f64 y] w fun e w' => e = .returned (.float .f64 9221120237041090560) ∧ w = w' := by
  have CA := Lib.hid (fun W => abs_any x W hxw)
  have CS := Lib.hid (fun W => signbit_any x W hxw)
  rw [sx] at CS
  obtain ⟨a, ha⟩ : ∃ a, rung x = a := ⟨_, rfl⟩
  have CY := Lib.hid (fun W => isNaN_any y W)
  rw [ny] at CY
  have CX := Lib.hid (fun W => isNaN_any x W)
  rw [nx] at CX
  have CQ := Lib.hid (fun W => vnan_any W)
  rw [ha] at CA
  clear sx ny hxw nx ha
  go_enter Try.func31, Try.ntmps31
  go_wp2_with fail
  refine (CA.out _).mono ?_
  rintro e w' ⟨rfl, rfl⟩
  go_wp2_with fail
  refine (CS.out _).mono ?_
  rintro e w' ⟨rfl, rfl⟩
  go_wp2_with fail
  refine (CO.out _).mono ?_
  rintro e w' ⟨rfl, rfl⟩
  go_wp2_with fail
  refine (CY.out _).mono ?_
  rintro e w' ⟨rfl, rfl⟩
  go_wp2_with fail
  refine (CX.out _).mono ?_
  rintro e w' ⟨rfl, rfl⟩
  go_wp2_with fail
  refine (CQ.out _).mono ?_
  rintro e w' ⟨rfl, rfl⟩
  go_wp2
  go_ret
  exact ⟨rfl, rfl⟩
set_option maxRecDepth 100000 in
set_option maxHeartbeats 1000000 in
theorem vPow_xnan_o (x y : Nat) (w : World) (hxw : x < 18446744073709551616) (sx : fneg x = true) (CO : RowKit.Hid (∀ W : World, Calls Try.prog 64 #[.float .f64 y] W fun e w' => e = .returned (.bool true) ∧ W = w')) (ny : fnan y = false) (hy : (FloatKind.f64.format.order y 0 == some .eq) = false) (nx : fnan x = true) : Calls Try.prog 31 #[.float .f64 x, .float .f64 y] w fun e w' => e = .returned (.float .f64 9221120237041090560) ∧ w = w' := by
  have CA := Lib.hid (fun W => abs_any x W hxw)
  have CS := Lib.hid (fun W => signbit_any x W hxw)
  rw [sx] at CS
  obtain ⟨a, ha⟩ : ∃ a, rung x = a := ⟨_, rfl⟩
  have CY := Lib.hid (fun W => isNaN_any y W)
  rw [ny] at CY
  have CX := Lib.hid (fun W => isNaN_any x W)
  rw [nx] at CX
  have CQ := Lib.hid (fun W => vnan_any W)
  rw [ha] at CA
  clear sx ny hxw nx ha
  go_enter Try.func31, Try.ntmps31
  go_wp2_with fail
  refine (CA.out _).mono ?_
  rintro e w' ⟨rfl, rfl⟩
  go_wp2_with fail
  refine (CS.out _).mono ?_
  rintro e w' ⟨rfl, rfl⟩
  go_wp2_with fail
  refine (CO.out _).mono ?_
  rintro e w' ⟨rfl, rfl⟩
  go_wp2_with fail
  refine (CY.out _).mono ?_
  rintro e w' ⟨rfl, rfl⟩
  go_wp2_with fail
  refine (CX.out _).mono ?_
  rintro e w' ⟨rfl, rfl⟩
  go_wp2_with fail
  refine (CQ.out _).mono ?_
  rintro e w' ⟨rfl, rfl⟩
  go_wp2
  go_ret
  exact ⟨rfl, rfl⟩
set_option maxRecDepth 100000 in
set_option maxHeartbeats 1000000 in
theorem vPow_yinf1_p (x y : Nat) (w : World) (hxw : x < 18446744073709551616) (sx : fneg x = false) (ny : fnan y = false) (hy : (FloatKind.f64.format.order y 0 == some .eq) = false) (nx : fnan x = false) (hyw : y < 18446744073709551616) (iy : finf y = true) (h1 : (FloatKind.f64.format.order (rung x) 4607182418800017408 == some .eq) = true) : Calls Try.prog 31 #[.float .f64 x, .float .f64 y] w fun e w' => e = .returned (.float .f64 9221120237041090560) ∧ w = w' := by
  have CA := Lib.hid (fun W => abs_any x W hxw)
  have CS := Lib.hid (fun W => signbit_any x W hxw)
  rw [sx] at CS
  obtain ⟨a, ha⟩ : ∃ a, rung x = a := ⟨_, rfl⟩
  have CY := Lib.hid (fun W => isNaN_any y W)
  rw [ny] at CY
  have CX := Lib.hid (fun W => isNaN_any x W)
  rw [nx] at CX
  have CI := Lib.hid (fun W => isInf0_any y W hyw)
  rw [iy] at CI
  have CQ := Lib.hid (fun W => vnan_any W)
  rw [ha] at CA h1
  clear sx ny hxw nx hyw iy ha
  go_enter Try.func31, Try.ntmps31
  go_wp2_with fail
  refine (CA.out _).mono ?_
  rintro e w' ⟨rfl, rfl⟩
  go_wp2_with fail
  refine (CS.out _).mono ?_
  rintro e w' ⟨rfl, rfl⟩
  go_wp2_with fail
  refine (CY.out _).mono ?_
  rintro e w' ⟨rfl, rfl⟩
  go_wp2_with fail
  refine (CX.out _).mono ?_
  rintro e w' ⟨rfl, rfl⟩
  go_wp2_with fail
  refine (CI.out _).mono ?_
  rintro e w' ⟨rfl, rfl⟩
  go_wp2_with fail
  refine (CQ.out _).mono ?_
  rintro e w' ⟨rfl, rfl⟩
  go_wp2
  go_ret
  exact ⟨rfl, rfl⟩
set_option maxRecDepth 100000 in
set_option maxHeartbeats 1000000 in
theorem vPow_yinf1_e (x y : Nat) (w : World) (hxw : x < 18446744073709551616) (sx : fneg x = true) (CO : RowKit.Hid (∀ W : World, Calls Try.prog 64 #[.float .f64 y] W fun e w' => e = .returned (.bool false) ∧ W = w')) (ny : fnan y = false) (hy : (FloatKind.f64.format.order y 0 == some .eq) = false) (nx : fnan x = false) (hyw : y < 18446744073709551616) (iy : finf y = true) (h1 : (FloatKind.f64.format.order (rung x) 4607182418800017408 == some .eq) = true) : Calls Try.prog 31 #[.float .f64 x, .float .f64 y] w fun e w' => e = .returned (.float .f64 9221120237041090560) ∧ w = w' := by
  have CA := Lib.hid (fun W => abs_any x W hxw)
  have CS := Lib.hid (fun W => signbit_any x W hxw)
  rw [sx] at CS
  obtain ⟨a, ha⟩ : ∃ a, rung x = a := ⟨_, rfl⟩
  have CY := Lib.hid (fun W => isNaN_any y W)
  rw [ny] at CY
  have CX := Lib.hid (fun W => isNaN_any x W)
  rw [nx] at CX
  have CI := Lib.hid (fun W => isInf0_any y W hyw)
  rw [iy] at CI
  have CQ := Lib.hid (fun W => vnan_any W)
  rw [ha] at CA h1
  clear sx ny hxw nx hyw iy ha
  go_enter Try.func31, Try.ntmps31
  go_wp2_with fail
  refine (CA.out _).mono ?_
  rintro e w' ⟨rfl, rfl⟩
  go_wp2_with fail
  refine (CS.out _).mono ?_
  rintro e w' ⟨rfl, rfl⟩
  go_wp2_with fail
  refine (CO.out _).mono ?_
  rintro e w' ⟨rfl, rfl⟩
  go_wp2_with fail
  refine (CY.out _).mono ?_
  rintro e w' ⟨rfl, rfl⟩
  go_wp2_with fail
  refine (CX.out _).mono ?_
  rintro e w' ⟨rfl, rfl⟩
  go_wp2_with fail
  refine (CI.out _).mono ?_
  rintro e w' ⟨rfl, rfl⟩
  go_wp2_with fail
  refine (CQ.out _).mono ?_
  rintro e w' ⟨rfl, rfl⟩
  go_wp2
  go_ret
  exact ⟨rfl, rfl⟩
set_option maxRecDepth 100000 in
set_option maxHeartbeats 1000000 in
theorem vPow_yinf1_o (x y : Nat) (w : World) (hxw : x < 18446744073709551616) (sx : fneg x = true) (CO : RowKit.Hid (∀ W : World, Calls Try.prog 64 #[.float .f64 y] W fun e w' => e = .returned (.bool true) ∧ W = w')) (ny : fnan y = false) (hy : (FloatKind.f64.format.order y 0 == some .eq) = false) (nx : fnan x = false) (hyw : y < 18446744073709551616) (iy : finf y = true) (h1 : (FloatKind.f64.format.order (rung x) 4607182418800017408 == some .eq) = true) : Calls Try.prog 31 #[.float .f64 x, .float .f64 y] w fun e w' => e = .returned (.float .f64 9221120237041090560) ∧ w = w' := by
  have CA := Lib.hid (fun W => abs_any x W hxw)
  have CS := Lib.hid (fun W => signbit_any x W hxw)
  rw [sx] at CS
  obtain ⟨a, ha⟩ : ∃ a, rung x = a := ⟨_, rfl⟩
  have CY := Lib.hid (fun W => isNaN_any y W)
  rw [ny] at CY
  have CX := Lib.hid (fun W => isNaN_any x W)
  rw [nx] at CX
  have CI := Lib.hid (fun W => isInf0_any y W hyw)
  rw [iy] at CI
  have CQ := Lib.hid (fun W => vnan_any W)
  rw [ha] at CA h1
  clear sx ny hxw nx hyw iy ha
  go_enter Try.func31, Try.ntmps31
  go_wp2_with fail
  refine (CA.out _).mono ?_
  rintro e w' ⟨rfl, rfl⟩
  go_wp2_with fail
  refine (CS.out _).mono ?_
  rintro e w' ⟨rfl, rfl⟩
  go_wp2_with fail
  refine (CO.out _).mono ?_
  rintro e w' ⟨rfl, rfl⟩
  go_wp2_with fail
  refine (CY.out _).mono ?_
  rintro e w' ⟨rfl, rfl⟩
  go_wp2_with fail
  refine (CX.out _).mono ?_
  rintro e w' ⟨rfl, rfl⟩
  go_wp2_with fail
  refine (CI.out _).mono ?_
  rintro e w' ⟨rfl, rfl⟩
  go_wp2_with fail
  refine (CQ.out _).mono ?_
  rintro e w' ⟨rfl, rfl⟩
  go_wp2
  go_ret
  exact ⟨rfl, rfl⟩
set_option maxRecDepth 100000 in
set_option maxHeartbeats 1000000 in
theorem vPow_yinf_tt_p (x y : Nat) (w : World) (hxw : x < 18446744073709551616) (sx : fneg x = false) (ny : fnan y = false) (hy : (FloatKind.f64.format.order y 0 == some .eq) = false) (nx : fnan x = false) (hyw : y < 18446744073709551616) (iy : finf y = true) (h1 : (FloatKind.f64.format.order (rung x) 4607182418800017408 == some .eq) = false) (h2 : (FloatKind.f64.format.order (rung x) 4607182418800017408 == some .gt) = true) (h3 : (FloatKind.f64.format.order y 0 == some .gt) = true) : Calls Try.prog 31 #[.float .f64 x, .float .f64 y] w fun e w' => e = .returned (.float .f64 9218868437227405312) ∧ w = w' := by
  have CA := Lib.hid (fun W => abs_any x W hxw)
  have CS := Lib.hid (fun W => signbit_any x W hxw)
  rw [sx] at CS
  obtain ⟨a, ha⟩ : ∃ a, rung x = a := ⟨_, rfl⟩
  have CY := Lib.hid (fun W => isNaN_any y W)
  rw [ny] at CY
  have CX := Lib.hid (fun W => isNaN_any x W)
  rw [nx] at CX
  have CI := Lib.hid (fun W => isInf0_any y W hyw)
  rw [iy] at CI
  have C1 := Lib.hid (fun W => inf1_any W)
  rw [ha] at CA h1 h2
  clear sx ny hxw nx hyw iy ha
  go_enter Try.func31, Try.ntmps31
  go_wp2_with fail
  refine (CA.out _).mono ?_
  rintro e w' ⟨rfl, rfl⟩
  go_wp2_with fail
  refine (CS.out _).mono ?_
  rintro e w' ⟨rfl, rfl⟩
  go_wp2_with fail
  refine (CY.out _).mono ?_
  rintro e w' ⟨rfl, rfl⟩
  go_wp2_with fail
  refine (CX.out _).mono ?_
  rintro e w' ⟨rfl, rfl⟩
  go_wp2_with fail
  refine (CI.out _).mono ?_
  rintro e w' ⟨rfl, rfl⟩
  go_wp2_with fail
  refine (C1.out _).mono ?_
  rintro e w' ⟨rfl, rfl⟩
  go_wp2
  go_ret
  exact ⟨rfl, rfl⟩
set_option maxRecDepth 100000 in
set_option maxHeartbeats 1000000 in
theorem vPow_yinf_tt_e (x y : Nat) (w : World) (hxw : x < 18446744073709551616) (sx : fneg x = true) (CO : RowKit.Hid (∀ W : World, Calls Try.prog 64 #[.float .f64 y] W fun e w' => e = .returned (.bool false) ∧ W = w')) (ny : fnan y = false) (hy : (FloatKind.f64.format.order y 0 == some .eq) = false) (nx : fnan x = false) (hyw : y < 18446744073709551616) (iy : finf y = true) (h1 : (FloatKind.f64.format.order (rung x) 4607182418800017408 == some .eq) = false) (h2 : (FloatKind.f64.format.order (rung x) 4607182418800017408 == some .gt) = true) (h3 : (FloatKind.f64.format.order y 0 == some .gt) = true) : Calls Try.prog 31 #[.float .f64 x, .float .f64 y] w fun e w' => e = .returned (.float .f64 9218868437227405312) ∧ w = w' := by
  have CA := Lib.hid (fun W => abs_any x W hxw)
  have CS := Lib.hid (fun W => signbit_any x W hxw)
  rw [sx] at CS
  obtain ⟨a, ha⟩ : ∃ a, rung x = a := ⟨_, rfl⟩
  have CY := Lib.hid (fun W => isNaN_any y W)
  rw [ny] at CY
  have CX := Lib.hid (fun W => isNaN_any x W)
  rw [nx] at CX
  have CI := Lib.hid (fun W => isInf0_any y W hyw)
  rw [iy] at CI
  have C1 := Lib.hid (fun W => inf1_any W)
  rw [ha] at CA h1 h2
  clear sx ny hxw nx hyw iy ha
  go_enter Try.func31, Try.ntmps31
  go_wp2_with fail
  refine (CA.out _).mono ?_
  rintro e w' ⟨rfl, rfl⟩
  go_wp2_with fail
  refine (CS.out _).mono ?_
  rintro e w' ⟨rfl, rfl⟩
  go_wp2_with fail
  refine (CO.out _).mono ?_
  rintro e w' ⟨rfl, rfl⟩
  go_wp2_with fail
  refine (CY.out _).mono ?_
  rintro e w' ⟨rfl, rfl⟩
  go_wp2_with fail
  refine (CX.out _).mono ?_
  rintro e w' ⟨rfl, rfl⟩
  go_wp2_with fail
  refine (CI.out _).mono ?_
  rintro e w' ⟨rfl, rfl⟩
  go_wp2_with fail
  refine (C1.out _).mono ?_
  rintro e w' ⟨rfl, rfl⟩
  go_wp2
  go_ret
  exact ⟨rfl, rfl⟩
set_option maxRecDepth 100000 in
set_option maxHeartbeats 1000000 in
theorem vPow_yinf_tt_o (x y : Nat) (w : World) (hxw : x < 18446744073709551616) (sx : fneg x = true) (CO : RowKit.Hid (∀ W : World, Calls Try.prog 64 #[.float .f64 y] W fun e w' => e = .returned (.bool true) ∧ W = w')) (ny : fnan y = false) (hy : (FloatKind.f64.format.order y 0 == some .eq) = false) (nx : fnan x = false) (hyw : y < 18446744073709551616) (iy : finf y = true) (h1 : (FloatKind.f64.format.order (rung x) 4607182418800017408 == some .eq) = false) (h2 : (FloatKind.f64.format.order (rung x) 4607182418800017408 == some .gt) = true) (h3 : (FloatKind.f64.format.order y 0 == some .gt) = true) : Calls Try.prog 31 #[.float .f64 x, .float .f64 y] w fun e w' => e = .returned (.float .f64 9218868437227405312) ∧ w = w' := by
  have CA := Lib.hid (fun W => abs_any x W hxw)
  have CS := Lib.hid (fun W => signbit_any x W hxw)
  rw [sx] at CS
  obtain ⟨a, ha⟩ : ∃ a, rung x = a := ⟨_, rfl⟩
  have CY := Lib.hid (fun W => isNaN_any y W)
  rw [ny] at CY
  have CX := Lib.hid (fun W => isNaN_any x W)
  rw [nx] at CX
  have CI := Lib.hid (fun W => isInf0_any y W hyw)
  rw [iy] at CI
  have C1 := Lib.hid (fun W => inf1_any W)
  rw [ha] at CA h1 h2
  clear sx ny hxw nx hyw iy ha
  go_enter Try.func31, Try.ntmps31
  go_wp2_with fail
  refine (CA.out _).mono ?_
  rintro e w' ⟨rfl, rfl⟩
  go_wp2_with fail
  refine (CS.out _).mono ?_
  rintro e w' ⟨rfl, rfl⟩
  go_wp2_with fail
  refine (CO.out _).mono ?_
  rintro e w' ⟨rfl, rfl⟩
  go_wp2_with fail
  refine (CY.out _).mono ?_
  rintro e w' ⟨rfl, rfl⟩
  go_wp2_with fail
  refine (CX.out _).mono ?_
  rintro e w' ⟨rfl, rfl⟩
  go_wp2_with fail
  refine (CI.out _).mono ?_
  rintro e w' ⟨rfl, rfl⟩
  go_wp2_with fail
  refine (C1.out _).mono ?_
  rintro e w' ⟨rfl, rfl⟩
  go_wp2
  go_ret
  exact ⟨rfl, rfl⟩
set_option maxRecDepth 100000 in
set_option maxHeartbeats 1000000 in
theorem vPow_yinf_tf_p (x y : Nat) (w : World) (hxw : x < 18446744073709551616) (sx : fneg x = false) (ny : fnan y = false) (hy : (FloatKind.f64.format.order y 0 == some .eq) = false) (nx : fnan x = false) (hyw : y < 18446744073709551616) (iy : finf y = true) (h1 : (FloatKind.f64.format.order (rung x) 4607182418800017408 == some .eq) = false) (h2 : (FloatKind.f64.format.order (rung x) 4607182418800017408 == some .gt) = true) (h3 : (FloatKind.f64.format.order y 0 == some .gt) = false) : Calls Try.prog 31 #[.float .f64 x, .float .f64 y] w fun e w' => e = .returned (.float .f64 0) ∧ w = w' := by
  have CA := Lib.hid (fun W => abs_any x W hxw)
  have CS := Lib.hid (fun W => signbit_any x W hxw)
  rw [sx] at CS
  obtain ⟨a, ha⟩ : ∃ a, rung x = a := ⟨_, rfl⟩
  have CY := Lib.hid (fun W => isNaN_any y W)
  rw [ny] at CY
  have CX := Lib.hid (fun W => isNaN_any x W)
  rw [nx] at CX
  have CI := Lib.hid (fun W => isInf0_any y W hyw)
  rw [iy] at CI
  rw [ha] at CA h1 h2
  clear sx ny hxw nx hyw iy ha
  go_enter Try.func31, Try.ntmps31
  go_wp2_with fail
  refine (CA.out _).mono ?_
  rintro e w' ⟨rfl, rfl⟩
  go_wp2_with fail
  refine (CS.out _).mono ?_
  rintro e w' ⟨rfl, rfl⟩
  go_wp2_with fail
  refine (CY.out _).mono ?_
  rintro e w' ⟨rfl, rfl⟩
  go_wp2_with fail
  refine (CX.out _).mono ?_
  rintro e w' ⟨rfl, rfl⟩
  go_wp2_with fail
  refine (CI.out _).mono ?_
  rintro e w' ⟨rfl, rfl⟩
  go_wp2
  go_ret
  exact ⟨rfl, rfl⟩
set_option maxRecDepth 100000 in
set_option maxHeartbeats 1000000 in
theorem vPow_yinf_tf_e (x y : Nat) (w : World) (hxw : x < 18446744073709551616) (sx : fneg x = true) (CO : RowKit.Hid (∀ W : World, Calls Try.prog 64 #[.float .f64 y] W fun e w' => e = .returned (.bool false) ∧ W = w')) (ny : fnan y = false) (hy : (FloatKind.f64.format.order y 0 == some .eq) = false) (nx : fnan x = false) (hyw : y < 18446744073709551616) (iy : finf y = true) (h1 : (FloatKind.f64.format.order (rung x) 4607182418800017408 == some .eq) = false) (h2 : (FloatKind.f64.format.order (rung x) 4607182418800017408 == some .gt) = true) (h3 : (FloatKind.f64.format.order y 0 == some .gt) = false) : Calls Try.prog 31 #[.float .f64 x, .float .f64 y] w fun e w' => e = .returned (.float .f64 0) ∧ w = w' := by
  have CA := Lib.hid (fun W => abs_any x W hxw)
  have CS := Lib.hid (fun W => signbit_any x W hxw)
  rw [sx] at CS
  obtain ⟨a, ha⟩ : ∃ a, rung x = a := ⟨_, rfl⟩
  have CY := Lib.hid (fun W => isNaN_any y W)
  rw [ny] at CY
  have CX := Lib.hid (fun W => isNaN_any x W)
  rw [nx] at CX
  have CI := Lib.hid (fun W => isInf0_any y W hyw)
  rw [iy] at CI
  rw [ha] at CA h1 h2
  clear sx ny hxw nx hyw iy ha
  go_enter Try.func31, Try.ntmps31
  go_wp2_with fail
  refine (CA.out _).mono ?_
  rintro e w' ⟨rfl, rfl⟩
  go_wp2_with fail
  refine (CS.out _).mono ?_
  rintro e w' ⟨rfl, rfl⟩
  go_wp2_with fail
  refine (CO.out _).mono ?_
  rintro e w' ⟨rfl, rfl⟩
  go_wp2_with fail
  refine (CY.out _).mono ?_
  rintro e w' ⟨rfl, rfl⟩
  go_wp2_with fail
  refine (CX.out _).mono ?_
  rintro e w' ⟨rfl, rfl⟩
  go_wp2_with fail
  refine (CI.out _).mono ?_
  rintro e w' ⟨rfl, rfl⟩
  go_wp2
  go_ret
  exact ⟨rfl, rfl⟩
set_option maxRecDepth 100000 in
set_option maxHeartbeats 1000000 in
theorem vPow_yinf_tf_o (x y : Nat) (w : World) (hxw : x < 18446744073709551616) (sx : fneg x = true) (CO : RowKit.Hid (∀ W : World, Calls Try.prog 64 #[.float .f64 y] W fun e w' => e = .returned (.bool true) ∧ W = w')) (ny : fnan y = false) (hy : (FloatKind.f64.format.order y 0 == some .eq) = false) (nx : fnan x = false) (hyw : y < 18446744073709551616) (iy : finf y = true) (h1 : (FloatKind.f64.format.order (rung x) 4607182418800017408 == some .eq) = false) (h2 : (FloatKind.f64.format.order (rung x) 4607182418800017408 == some .gt) = true) (h3 : (FloatKind.f64.format.order y 0 == some .gt) = false) : Calls Try.prog 31 #[.float .f64 x, .float .f64 y] w fun e w' => e = .returned (.float .f64 0) ∧ w = w' := by
  have CA := Lib.hid (fun W => abs_any x W hxw)
  have CS := Lib.hid (fun W => signbit_any x W hxw)
  rw [sx] at CS
  obtain ⟨a, ha⟩ : ∃ a, rung x = a := ⟨_, rfl⟩
  have CY := Lib.hid (fun W => isNaN_any y W)
  rw [ny] at CY
  have CX := Lib.hid (fun W => isNaN_any x W)
  rw [nx] at CX
  have CI := Lib.hid (fun W => isInf0_any y W hyw)
  rw [iy] at CI
  rw [ha] at CA h1 h2
  clear sx ny hxw nx hyw iy ha
  go_enter Try.func31, Try.ntmps31
  go_wp2_with fail
  refine (CA.out _).mono ?_
  rintro e w' ⟨rfl, rfl⟩
  go_wp2_with fail
  refine (CS.out _).mono ?_
  rintro e w' ⟨rfl, rfl⟩
  go_wp2_with fail
  refine (CO.out _).mono ?_
  rintro e w' ⟨rfl, rfl⟩
  go_wp2_with fail
  refine (CY.out _).mono ?_
  rintro e w' ⟨rfl, rfl⟩
  go_wp2_with fail
  refine (CX.out _).mono ?_
  rintro e w' ⟨rfl, rfl⟩
  go_wp2_with fail
  refine (CI.out _).mono ?_
  rintro e w' ⟨rfl, rfl⟩
  go_wp2
  go_ret
  exact ⟨rfl, rfl⟩
set_option maxRecDepth 100000 in
set_option maxHeartbeats 1000000 in
theorem vPow_yinf_ft_p (x y : Nat) (w : World) (hxw : x < 18446744073709551616) (sx : fneg x = false) (ny : fnan y = false) (hy : (FloatKind.f64.format.order y 0 == some .eq) = false) (nx : fnan x = false) (hyw : y < 18446744073709551616) (iy : finf y = true) (h1 : (FloatKind.f64.format.order (rung x) 4607182418800017408 == some .eq) = false) (h2 : (FloatKind.f64.format.order (rung x) 4607182418800017408 == some .gt) = false) (h3 : (FloatKind.f64.format.order y 0 == some .gt) = true) : Calls Try.prog 31 #[.float .f64 x, .float .f64 y] w fun e w' => e = .returned (.float .f64 0) ∧ w = w' := by
  have CA := Lib.hid (fun W => abs_any x W hxw)
  have CS := Lib.hid (fun W => signbit_any x W hxw)
  rw [sx] at CS
  obtain ⟨a, ha⟩ : ∃ a, rung x = a := ⟨_, rfl⟩
  have CY := Lib.hid (fun W => isNaN_any y W)
  rw [ny] at CY
  have CX := Lib.hid (fun W => isNaN_any x W)
  rw [nx] at CX
  have CI := Lib.hid (fun W => isInf0_any y W hyw)
  rw [iy] at CI
  rw [ha] at CA h1 h2
  clear sx ny hxw nx hyw iy ha
  go_enter Try.func31, Try.ntmps31
  go_wp2_with fail
  refine (CA.out _).mono ?_
  rintro e w' ⟨rfl, rfl⟩
  go_wp2_with fail
  refine (CS.out _).mono ?_
  rintro e w' ⟨rfl, rfl⟩
  go_wp2_with fail
  refine (CY.out _).mono ?_
  rintro e w' ⟨rfl, rfl⟩
  go_wp2_with fail
  refine (CX.out _).mono ?_
  rintro e w' ⟨rfl, rfl⟩
  go_wp2_with fail
  refine (CI.out _).mono ?_
  rintro e w' ⟨rfl, rfl⟩
  go_wp2
  go_ret
  exact ⟨rfl, rfl⟩
set_option maxRecDepth 100000 in
set_option maxHeartbeats 1000000 in
theorem vPow_yinf_ft_e (x y : Nat) (w : World) (hxw : x < 18446744073709551616) (sx : fneg x = true) (CO : RowKit.Hid (∀ W : World, Calls Try.prog 64 #[.float .f64 y] W fun e w' => e = .returned (.bool false) ∧ W = w')) (ny : fnan y = false) (hy : (FloatKind.f64.format.order y 0 == some .eq) = false) (nx : fnan x = false) (hyw : y < 18446744073709551616) (iy : finf y = true) (h1 : (FloatKind.f64.format.order (rung x) 4607182418800017408 == some .eq) = false) (h2 : (FloatKind.f64.format.order (rung x) 4607182418800017408 == some .gt) = false) (h3 : (FloatKind.f64.format.order y 0 == some .gt) = true) : Calls Try.prog 31 #[.float .f64 x, .float .f64 y] w fun e w' => e = .returned (.float .f64 0) ∧ w = w' := by
  have CA := Lib.hid (fun W => abs_any x W hxw)
  have CS := Lib.hid (fun W => signbit_any x W hxw)
  rw [sx] at CS
  obtain ⟨a, ha⟩ : ∃ a, rung x = a := ⟨_, rfl⟩
  have CY := Lib.hid (fun W => isNaN_any y W)
  rw [ny] at CY
  have CX := Lib.hid (fun W => isNaN_any x W)
  rw [nx] at CX
  have CI := Lib.hid (fun W => isInf0_any y W hyw)
  rw [iy] at CI
  rw [ha] at CA h1 h2
  clear sx ny hxw nx hyw iy ha
  go_enter Try.func31, Try.ntmps31
  go_wp2_with fail
  refine (CA.out _).mono ?_
  rintro e w' ⟨rfl, rfl⟩
  go_wp2_with fail
  refine (CS.out _).mono ?_
  rintro e w' ⟨rfl, rfl⟩
  go_wp2_with fail
  refine (CO.out _).mono ?_
  rintro e w' ⟨rfl, rfl⟩
  go_wp2_with fail
  refine (CY.out _).mono ?_
  rintro e w' ⟨rfl, rfl⟩
  go_wp2_with fail
  refine (CX.out _).mono ?_
  rintro e w' ⟨rfl, rfl⟩
  go_wp2_with fail
  refine (CI.out _).mono ?_
  rintro e w' ⟨rfl, rfl⟩
  go_wp2
  go_ret
  exact ⟨rfl, rfl⟩
set_option maxRecDepth 100000 in
set_option maxHeartbeats 1000000 in
theorem vPow_yinf_ft_o (x y : Nat) (w : World) (hxw : x < 18446744073709551616) (sx : fneg x = true) (CO : RowKit.Hid (∀ W : World, Calls Try.prog 64 #[.float .f64 y] W fun e w' => e = .returned (.bool true) ∧ W = w')) (ny : fnan y = false) (hy : (FloatKind.f64.format.order y 0 == some .eq) = false) (nx : fnan x = false) (hyw : y < 18446744073709551616) (iy : finf y = true) (h1 : (FloatKind.f64.format.order (rung x) 4607182418800017408 == some .eq) = false) (h2 : (FloatKind.f64.format.order (rung x) 4607182418800017408 == some .gt) = false) (h3 : (FloatKind.f64.format.order y 0 == some .gt) = true) : Calls Try.prog 31 #[.float .f64 x, .float .f64 y] w fun e w' => e = .returned (.float .f64 0) ∧ w = w' := by
  have CA := Lib.hid (fun W => abs_any x W hxw)
  have CS := Lib.hid (fun W => signbit_any x W hxw)
  rw [sx] at CS
  obtain ⟨a, ha⟩ : ∃ a, rung x = a := ⟨_, rfl⟩
  have CY := Lib.hid (fun W => isNaN_any y W)
  rw [ny] at CY
  have CX := Lib.hid (fun W => isNaN_any x W)
  rw [nx] at CX
  have CI := Lib.hid (fun W => isInf0_any y W hyw)
  rw [iy] at CI
  rw [ha] at CA h1 h2
  clear sx ny hxw nx hyw iy ha
  go_enter Try.func31, Try.ntmps31
  go_wp2_with fail
  refine (CA.out _).mono ?_
  rintro e w' ⟨rfl, rfl⟩
  go_wp2_with fail
  refine (CS.out _).mono ?_
  rintro e w' ⟨rfl, rfl⟩
  go_wp2_with fail
  refine (CO.out _).mono ?_
  rintro e w' ⟨rfl, rfl⟩
  go_wp2_with fail
  refine (CY.out _).mono ?_
  rintro e w' ⟨rfl, rfl⟩
  go_wp2_with fail
  refine (CX.out _).mono ?_
  rintro e w' ⟨rfl, rfl⟩
  go_wp2_with fail
  refine (CI.out _).mono ?_
  rintro e w' ⟨rfl, rfl⟩
  go_wp2
  go_ret
  exact ⟨rfl, rfl⟩
set_option maxRecDepth 100000 in
set_option maxHeartbeats 1000000 in
theorem vPow_yinf_ff_p (x y : Nat) (w : World) (hxw : x < 18446744073709551616) (sx : fneg x = false) (ny : fnan y = false) (hy : (FloatKind.f64.format.order y 0 == some .eq) = false) (nx : fnan x = false) (hyw : y < 18446744073709551616) (iy : finf y = true) (h1 : (FloatKind.f64.format.order (rung x) 4607182418800017408 == some .eq) = false) (h2 : (FloatKind.f64.format.order (rung x) 4607182418800017408 == some .gt) = false) (h3 : (FloatKind.f64.format.order y 0 == some .gt) = false) : Calls Try.prog 31 #[.float .f64 x, .float .f64 y] w fun e w' => e = .returned (.float .f64 9218868437227405312) ∧ w = w' := by
  have CA := Lib.hid (fun W => abs_any x W hxw)
  have CS := Lib.hid (fun W => signbit_any x W hxw)
  rw [sx] at CS
  obtain ⟨a, ha⟩ : ∃ a, rung x = a := ⟨_, rfl⟩
  have CY := Lib.hid (fun W => isNaN_any y W)
  rw [ny] at CY
  have CX := Lib.hid (fun W => isNaN_any x W)
  rw [nx] at CX
  have CI := Lib.hid (fun W => isInf0_any y W hyw)
  rw [iy] at CI
  have C1 := Lib.hid (fun W => inf1_any W)
  rw [ha] at CA h1 h2
  clear sx ny hxw nx hyw iy ha
  go_enter Try.func31, Try.ntmps31
  go_wp2_with fail
  refine (CA.out _).mono ?_
  rintro e w' ⟨rfl, rfl⟩
  go_wp2_with fail
  refine (CS.out _).mono ?_
  rintro e w' ⟨rfl, rfl⟩
  go_wp2_with fail
  refine (CY.out _).mono ?_
  rintro e w' ⟨rfl, rfl⟩
  go_wp2_with fail
  refine (CX.out _).mono ?_
  rintro e w' ⟨rfl, rfl⟩
  go_wp2_with fail
  refine (CI.out _).mono ?_
  rintro e w' ⟨rfl, rfl⟩
  go_wp2_with fail
  refine (C1.out _).mono ?_
  rintro e w' ⟨rfl, rfl⟩
  go_wp2
  go_ret
  exact ⟨rfl, rfl⟩
set_option maxRecDepth 100000 in
set_option maxHeartbeats 1000000 in
theorem vPow_yinf_ff_e (x y : Nat) (w : World) (hxw : x < 18446744073709551616) (sx : fneg x = true) (CO : RowKit.Hid (∀ W : World, Calls Try.prog 64 #[.float .f64 y] W fun e w' => e = .returned (.bool false) ∧ W = w')) (ny : fnan y = false) (hy : (FloatKind.f64.format.order y 0 == some .eq) = false) (nx : fnan x = false) (hyw : y < 18446744073709551616) (iy : finf y = true) (h1 : (FloatKind.f64.format.order (rung x) 4607182418800017408 == some .eq) = false) (h2 : (FloatKind.f64.format.order (rung x) 4607182418800017408 == some .gt) = false) (h3 : (FloatKind.f64.format.order y 0 == some .gt) = false) : Calls Try.prog 31 #[.float .f64 x, .float .f64 y] w fun e w' => e = .returned (.float .f64 9218868437227405312) ∧ w = w' := by
  have CA := Lib.hid (fun W => abs_any x W hxw)
  have CS := Lib.hid (fun W => signbit_any x W hxw)
  rw [sx] at CS
  obtain ⟨a, ha⟩ : ∃ a, rung x = a := ⟨_, rfl⟩
  have CY := Lib.hid (fun W => isNaN_any y W)
  rw [ny] at CY
  have CX := Lib.hid (fun W => isNaN_any x W)
  rw [nx] at CX
  have CI := Lib.hid (fun W => isInf0_any y W hyw)
  rw [iy] at CI
  have C1 := Lib.hid (fun W => inf1_any W)
  rw [ha] at CA h1 h2
  clear sx ny hxw nx hyw iy ha
  go_enter Try.func31, Try.ntmps31
  go_wp2_with fail
  refine (CA.out _).mono ?_
  rintro e w' ⟨rfl, rfl⟩
  go_wp2_with fail
  refine (CS.out _).mono ?_
  rintro e w' ⟨rfl, rfl⟩
  go_wp2_with fail
  refine (CO.out _).mono ?_
  rintro e w' ⟨rfl, rfl⟩
  go_wp2_with fail
  refine (CY.out _).mono ?_
  rintro e w' ⟨rfl, rfl⟩
  go_wp2_with fail
  refine (CX.out _).mono ?_
  rintro e w' ⟨rfl, rfl⟩
  go_wp2_with fail
  refine (CI.out _).mono ?_
  rintro e w' ⟨rfl, rfl⟩
  go_wp2_with fail
  refine (C1.out _).mono ?_
  rintro e w' ⟨rfl, rfl⟩
  go_wp2
  go_ret
  exact ⟨rfl, rfl⟩
set_option maxRecDepth 100000 in
set_option maxHeartbeats 1000000 in
theorem vPow_yinf_ff_o (x y : Nat) (w : World) (hxw : x < 18446744073709551616) (sx : fneg x = true) (CO : RowKit.Hid (∀ W : World, Calls Try.prog 64 #[.float .f64 y] W fun e w' => e = .returned (.bool true) ∧ W = w')) (ny : fnan y = false) (hy : (FloatKind.f64.format.order y 0 == some .eq) = false) (nx : fnan x = false) (hyw : y < 18446744073709551616) (iy : finf y = true) (h1 : (FloatKind.f64.format.order (rung x) 4607182418800017408 == some .eq) = false) (h2 : (FloatKind.f64.format.order (rung x) 4607182418800017408 == some .gt) = false) (h3 : (FloatKind.f64.format.order y 0 == some .gt) = false) : Calls Try.prog 31 #[.float .f64 x, .float .f64 y] w fun e w' => e = .returned (.float .f64 9218868437227405312) ∧ w = w' := by
  have CA := Lib.hid (fun W => abs_any x W hxw)
  have CS := Lib.hid (fun W => signbit_any x W hxw)
  rw [sx] at CS
  obtain ⟨a, ha⟩ : ∃ a, rung x = a := ⟨_, rfl⟩
  have CY := Lib.hid (fun W => isNaN_any y W)
  rw [ny] at CY
  have CX := Lib.hid (fun W => isNaN_any x W)
  rw [nx] at CX
  have CI := Lib.hid (fun W => isInf0_any y W hyw)
  rw [iy] at CI
  have C1 := Lib.hid (fun W => inf1_any W)
  rw [ha] at CA h1 h2
  clear sx ny hxw nx hyw iy ha
  go_enter Try.func31, Try.ntmps31
  go_wp2_with fail
  refine (CA.out _).mono ?_
  rintro e w' ⟨rfl, rfl⟩
  go_wp2_with fail
  refine (CS.out _).mono ?_
  rintro e w' ⟨rfl, rfl⟩
  go_wp2_with fail
  refine (CO.out _).mono ?_
  rintro e w' ⟨rfl, rfl⟩
  go_wp2_with fail
  refine (CY.out _).mono ?_
  rintro e w' ⟨rfl, rfl⟩
  go_wp2_with fail
  refine (CX.out _).mono ?_
  rintro e w' ⟨rfl, rfl⟩
  go_wp2_with fail
  refine (CI.out _).mono ?_
  rintro e w' ⟨rfl, rfl⟩
  go_wp2_with fail
  refine (C1.out _).mono ?_
  rintro e w' ⟨rfl, rfl⟩
  go_wp2
  go_ret
  exact ⟨rfl, rfl⟩
set_option maxRecDepth 100000 in
set_option maxHeartbeats 1000000 in
theorem vPow_xinf_t_p (x y : Nat) (w : World) (hxw : x < 18446744073709551616) (sx : fneg x = false) (ny : fnan y = false) (hy : (FloatKind.f64.format.order y 0 == some .eq) = false) (nx : fnan x = false) (hyw : y < 18446744073709551616) (iy : finf y = false) (ix : finf x = true) (h3 : (FloatKind.f64.format.order y 0 == some .gt) = true) : Calls Try.prog 31 #[.float .f64 x, .float .f64 y] w fun e w' => e = .returned (.float .f64 9218868437227405312) ∧ w = w' := by
  have CA := Lib.hid (fun W => abs_any x W hxw)
  have CS := Lib.hid (fun W => signbit_any x W hxw)
  rw [sx] at CS
  obtain ⟨a, ha⟩ : ∃ a, rung x = a := ⟨_, rfl⟩
  have CY := Lib.hid (fun W => isNaN_any y W)
  rw [ny] at CY
  have CX := Lib.hid (fun W => isNaN_any x W)
  rw [nx] at CX
  have CI := Lib.hid (fun W => isInf0_any y W hyw)
  rw [iy] at CI
  have CJ := Lib.hid (fun W => isInf0_any x W hxw)
  rw [ix] at CJ
  have C1 := Lib.hid (fun W => inf1_any W)
  rw [ha] at CA
  clear sx ny hxw nx hyw iy ix ha
  go_enter Try.func31, Try.ntmps31
  go_wp2_with fail
  refine (CA.out _).mono ?_
  rintro e w' ⟨rfl, rfl⟩
  go_wp2_with fail
  refine (CS.out _).mono ?_
  rintro e w' ⟨rfl, rfl⟩
  go_wp2_with fail
  refine (CY.out _).mono ?_
  rintro e w' ⟨rfl, rfl⟩
  go_wp2_with fail
  refine (CX.out _).mono ?_
  rintro e w' ⟨rfl, rfl⟩
  go_wp2_with fail
  refine (CI.out _).mono ?_
  rintro e w' ⟨rfl, rfl⟩
  go_wp2_with fail
  refine (CJ.out _).mono ?_
  rintro e w' ⟨rfl, rfl⟩
  go_wp2_with fail
  refine (CJ.out _).mono ?_
  rintro e w' ⟨rfl, rfl⟩
  go_wp2_with fail
  refine (C1.out _).mono ?_
  rintro e w' ⟨rfl, rfl⟩
  go_wp2
  go_ret
  exact ⟨rfl, rfl⟩
set_option maxRecDepth 100000 in
set_option maxHeartbeats 1000000 in
theorem vPow_xinf_t_e (x y : Nat) (w : World) (hxw : x < 18446744073709551616) (sx : fneg x = true) (CO : RowKit.Hid (∀ W : World, Calls Try.prog 64 #[.float .f64 y] W fun e w' => e = .returned (.bool false) ∧ W = w')) (ny : fnan y = false) (hy : (FloatKind.f64.format.order y 0 == some .eq) = false) (nx : fnan x = false) (hyw : y < 18446744073709551616) (iy : finf y = false) (ix : finf x = true) (h3 : (FloatKind.f64.format.order y 0 == some .gt) = true) : Calls Try.prog 31 #[.float .f64 x, .float .f64 y] w fun e w' => e = .returned (.float .f64 9218868437227405312) ∧ w = w' := by
  have CA := Lib.hid (fun W => abs_any x W hxw)
  have CS := Lib.hid (fun W => signbit_any x W hxw)
  rw [sx] at CS
  obtain ⟨a, ha⟩ : ∃ a, rung x = a := ⟨_, rfl⟩
  have CY := Lib.hid (fun W => isNaN_any y W)
  rw [ny] at CY
  have CX := Lib.hid (fun W => isNaN_any x W)
  rw [nx] at CX
  have CI := Lib.hid (fun W => isInf0_any y W hyw)
  rw [iy] at CI
  have CJ := Lib.hid (fun W => isInf0_any x W hxw)
  rw [ix] at CJ
  have C1 := Lib.hid (fun W => inf1_any W)
  rw [ha] at CA
  clear sx ny hxw nx hyw iy ix ha
  go_enter Try.func31, Try.ntmps31
  go_wp2_with fail
  refine (CA.out _).mono ?_
  rintro e w' ⟨rfl, rfl⟩
  go_wp2_with fail
  refine (CS.out _).mono ?_
  rintro e w' ⟨rfl, rfl⟩
  go_wp2_with fail
  refine (CO.out _).mono ?_
  rintro e w' ⟨rfl, rfl⟩
  go_wp2_with fail
  refine (CY.out _).mono ?_
  rintro e w' ⟨rfl, rfl⟩
  go_wp2_with fail
  refine (CX.out _).mono ?_
  rintro e w' ⟨rfl, rfl⟩
  go_wp2_with fail
  refine (CI.out _).mono ?_
  rintro e w' ⟨rfl, rfl⟩
  go_wp2_with fail
  refine (CJ.out _).mono ?_
  rintro e w' ⟨rfl, rfl⟩
  go_wp2_with fail
  refine (CJ.out _).mono ?_
  rintro e w' ⟨rfl, rfl⟩
  go_wp2_with fail
  refine (C1.out _).mono ?_
  rintro e w' ⟨rfl, rfl⟩
  go_wp2
  go_ret
  exact ⟨rfl, rfl⟩
set_option maxRecDepth 100000 in
set_option maxHeartbeats 1000000 in
theorem vPow_xinf_t_o (x y : Nat) (w : World) (hxw : x < 18446744073709551616) (sx : fneg x = true) (CO : RowKit.Hid (∀ W : World, Calls Try.prog 64 #[.float .f64 y] W fun e w' => e = .returned (.bool true) ∧ W = w')) (ny : fnan y = false) (hy : (FloatKind.f64.format.order y 0 == some .eq) = false) (nx : fnan x = false) (hyw : y < 18446744073709551616) (iy : finf y = false) (ix : finf x = true) (h3 : (FloatKind.f64.format.order y 0 == some .gt) = true) : Calls Try.prog 31 #[.float .f64 x, .float .f64 y] w fun e w' => e = .returned (.float .f64 (Op.negFloat .f64 9218868437227405312)) ∧ w = w' := by
  have CA := Lib.hid (fun W => abs_any x W hxw)
  have CS := Lib.hid (fun W => signbit_any x W hxw)
  rw [sx] at CS
  obtain ⟨a, ha⟩ : ∃ a, rung x = a := ⟨_, rfl⟩
  have CY := Lib.hid (fun W => isNaN_any y W)
  rw [ny] at CY
  have CX := Lib.hid (fun W => isNaN_any x W)
  rw [nx] at CX
  have CI := Lib.hid (fun W => isInf0_any y W hyw)
  rw [iy] at CI
  have CJ := Lib.hid (fun W => isInf0_any x W hxw)
  rw [ix] at CJ
  have C1 := Lib.hid (fun W => inf1_any W)
  rw [ha] at CA
  have CN : ∀ W : World, (Op.unary UnOp.neg (.float .f64 9218868437227405312)).run Try.prog W = .ok (.float .f64 (Op.negFloat .f64 9218868437227405312)) W := fun W => rfl
  obtain ⟨z, hz⟩ : ∃ z, Op.negFloat .f64 9218868437227405312 = z := ⟨_, rfl⟩
  rw [hz] at CN ⊢
  clear sx ny hxw nx hyw iy ix ha hz
  go_enter Try.func31, Try.ntmps31
  go_wp2_with fail
  refine (CA.out _).mono ?_
  rintro e w' ⟨rfl, rfl⟩
  go_wp2_with fail
  refine (CS.out _).mono ?_
  rintro e w' ⟨rfl, rfl⟩
  go_wp2_with fail
  refine (CO.out _).mono ?_
  rintro e w' ⟨rfl, rfl⟩
  go_wp2_with fail
  refine (CY.out _).mono ?_
  rintro e w' ⟨rfl, rfl⟩
  go_wp2_with fail
  refine (CX.out _).mono ?_
  rintro e w' ⟨rfl, rfl⟩
  go_wp2_with fail
  refine (CI.out _).mono ?_
  rintro e w' ⟨rfl, rfl⟩
  go_wp2_with fail
  refine (CJ.out _).mono ?_
  rintro e w' ⟨rfl, rfl⟩
  go_wp2_with fail
  refine (CJ.out _).mono ?_
  rintro e w' ⟨rfl, rfl⟩
  go_wp2_with fail
  refine (C1.out _).mono ?_
  rintro e w' ⟨rfl, rfl⟩
  go_wp2
  go_ret
  exact ⟨rfl, rfl⟩
set_option maxRecDepth 100000 in
set_option maxHeartbeats 1000000 in
theorem vPow_xzero_t_p (x y : Nat) (w : World) (hxw : x < 18446744073709551616) (sx : fneg x = false) (ny : fnan y = false) (hy : (FloatKind.f64.format.order y 0 == some .eq) = false) (nx : fnan x = false) (hyw : y < 18446744073709551616) (iy : finf y = false) (ix : finf x = false) (zx : (FloatKind.f64.format.order x 0 == some .eq) = true) (h3 : (FloatKind.f64.format.order y 0 == some .gt) = true) : Calls Try.prog 31 #[.float .f64 x, .float .f64 y] w fun e w' => e = .returned (.float .f64 0) ∧ w = w' := by
  have CA := Lib.hid (fun W => abs_any x W hxw)
  have CS := Lib.hid (fun W => signbit_any x W hxw)
  rw [sx] at CS
  obtain ⟨a, ha⟩ : ∃ a, rung x = a := ⟨_, rfl⟩
  have CY := Lib.hid (fun W => isNaN_any y W)
  rw [ny] at CY
  have CX := Lib.hid (fun W => isNaN_any x W)
  rw [nx] at CX
  have CI := Lib.hid (fun W => isInf0_any y W hyw)
  rw [iy] at CI
  have CJ := Lib.hid (fun W => isInf0_any x W hxw)
  rw [ix] at CJ
  rw [ha] at CA
  clear sx ny hxw nx hyw iy ix ha
  go_enter Try.func31, Try.ntmps31
  go_wp2_with fail
  refine (CA.out _).mono ?_
  rintro e w' ⟨rfl, rfl⟩
  go_wp2_with fail
  refine (CS.out _).mono ?_
  rintro e w' ⟨rfl, rfl⟩
  go_wp2_with fail
  refine (CY.out _).mono ?_
  rintro e w' ⟨rfl, rfl⟩
  go_wp2_with fail
  refine (CX.out _).mono ?_
  rintro e w' ⟨rfl, rfl⟩
  go_wp2_with fail
  refine (CI.out _).mono ?_
  rintro e w' ⟨rfl, rfl⟩
  go_wp2_with fail
  refine (CJ.out _).mono ?_
  rintro e w' ⟨rfl, rfl⟩
  go_wp2_with fail
  refine (CJ.out _).mono ?_
  rintro e w' ⟨rfl, rfl⟩
  go_wp2
  go_ret
  exact ⟨rfl, rfl⟩
set_option maxRecDepth 100000 in
set_option maxHeartbeats 1000000 in
theorem vPow_xzero_t_e (x y : Nat) (w : World) (hxw : x < 18446744073709551616) (sx : fneg x = true) (CO : RowKit.Hid (∀ W : World, Calls Try.prog 64 #[.float .f64 y] W fun e w' => e = .returned (.bool false) ∧ W = w')) (ny : fnan y = false) (hy : (FloatKind.f64.format.order y 0 == some .eq) = false) (nx : fnan x = false) (hyw : y < 18446744073709551616) (iy : finf y = false) (ix : finf x = false) (zx : (FloatKind.f64.format.order x 0 == some .eq) = true) (h3 : (FloatKind.f64.format.order y 0 == some .gt) = true) : Calls Try.prog 31 #[.float .f64 x, .float .f64 y] w fun e w' => e = .returned (.float .f64 0) ∧ w = w' := by
  have CA := Lib.hid (fun W => abs_any x W hxw)
  have CS := Lib.hid (fun W => signbit_any x W hxw)
  rw [sx] at CS
  obtain ⟨a, ha⟩ : ∃ a, rung x = a := ⟨_, rfl⟩
  have CY := Lib.hid (fun W => isNaN_any y W)
  rw [ny] at CY
  have CX := Lib.hid (fun W => isNaN_any x W)
  rw [nx] at CX
  have CI := Lib.hid (fun W => isInf0_any y W hyw)
  rw [iy] at CI
  have CJ := Lib.hid (fun W => isInf0_any x W hxw)
  rw [ix] at CJ
  rw [ha] at CA
  clear sx ny hxw nx hyw iy ix ha
  go_enter Try.func31, Try.ntmps31
  go_wp2_with fail
  refine (CA.out _).mono ?_
  rintro e w' ⟨rfl, rfl⟩
  go_wp2_with fail
  refine (CS.out _).mono ?_
  rintro e w' ⟨rfl, rfl⟩
  go_wp2_with fail
  refine (CO.out _).mono ?_
  rintro e w' ⟨rfl, rfl⟩
  go_wp2_with fail
  refine (CY.out _).mono ?_
  rintro e w' ⟨rfl, rfl⟩
  go_wp2_with fail
  refine (CX.out _).mono ?_
  rintro e w' ⟨rfl, rfl⟩
  go_wp2_with fail
  refine (CI.out _).mono ?_
  rintro e w' ⟨rfl, rfl⟩
  go_wp2_with fail
  refine (CJ.out _).mono ?_
  rintro e w' ⟨rfl, rfl⟩
  go_wp2_with fail
  refine (CJ.out _).mono ?_
  rintro e w' ⟨rfl, rfl⟩
  go_wp2
  go_ret
  exact ⟨rfl, rfl⟩
set_option maxRecDepth 100000 in
set_option maxHeartbeats 1000000 in
theorem vPow_xzero_t_o (x y : Nat) (w : World) (hxw : x < 18446744073709551616) (sx : fneg x = true) (CO : RowKit.Hid (∀ W : World, Calls Try.prog 64 #[.float .f64 y] W fun e w' => e = .returned (.bool true) ∧ W = w')) (ny : fnan y = false) (hy : (FloatKind.f64.format.order y 0 == some .eq) = false) (nx : fnan x = false) (hyw : y < 18446744073709551616) (iy : finf y = false) (ix : finf x = false) (zx : (FloatKind.f64.format.order x 0 == some .eq) = true) (h3 : (FloatKind.f64.format.order y 0 == some .gt) = true) : Calls Try.prog 31 #[.float .f64 x, .float .f64 y] w fun e w' => e = .returned (.float .f64 (Op.negFloat .f64 0)) ∧ w = w' := by
  have CA := Lib.hid (fun W => abs_any x W hxw)
  have CS := Lib.hid (fun W => signbit_any x W hxw)
  rw [sx] at CS
  obtain ⟨a, ha⟩ : ∃ a, rung x = a := ⟨_, rfl⟩
  have CY := Lib.hid (fun W => isNaN_any y W)
  rw [ny] at CY
  have CX := Lib.hid (fun W => isNaN_any x W)
  rw [nx] at CX
  have CI := Lib.hid (fun W => isInf0_any y W hyw)
  rw [iy] at CI
  have CJ := Lib.hid (fun W => isInf0_any x W hxw)
  rw [ix] at CJ
  rw [ha] at CA
  have CN : ∀ W : World, (Op.unary UnOp.neg (.float .f64 0)).run Try.prog W = .ok (.float .f64 (Op.negFloat .f64 0)) W := fun W => rfl
  obtain ⟨z, hz⟩ : ∃ z, Op.negFloat .f64 0 = z := ⟨_, rfl⟩
  rw [hz] at CN ⊢
  clear sx ny hxw nx hyw iy ix ha hz
  go_enter Try.func31, Try.ntmps31
  go_wp2_with fail
  refine (CA.out _).mono ?_
  rintro e w' ⟨rfl, rfl⟩
  go_wp2_with fail
  refine (CS.out _).mono ?_
  rintro e w' ⟨rfl, rfl⟩
  go_wp2_with fail
  refine (CO.out _).mono ?_
  rintro e w' ⟨rfl, rfl⟩
  go_wp2_with fail
  refine (CY.out _).mono ?_
  rintro e w' ⟨rfl, rfl⟩
  go_wp2_with fail
  refine (CX.out _).mono ?_
  rintro e w' ⟨rfl, rfl⟩
  go_wp2_with fail
  refine (CI.out _).mono ?_
  rintro e w' ⟨rfl, rfl⟩
  go_wp2_with fail
  refine (CJ.out _).mono ?_
  rintro e w' ⟨rfl, rfl⟩
  go_wp2_with fail
  refine (CJ.out _).mono ?_
  rintro e w' ⟨rfl, rfl⟩
  go_wp2
  go_ret
  exact ⟨rfl, rfl⟩
set_option maxRecDepth 100000 in
set_option maxHeartbeats 1000000 in
theorem vPow_xinf_f_p (x y : Nat) (w : World) (hxw : x < 18446744073709551616) (sx : fneg x = false) (ny : fnan y = false) (hy : (FloatKind.f64.format.order y 0 == some .eq) = false) (nx : fnan x = false) (hyw : y < 18446744073709551616) (iy : finf y = false) (ix : finf x = true) (h3 : (FloatKind.f64.format.order y 0 == some .gt) = false) : Calls Try.prog 31 #[.float .f64 x, .float .f64 y] w fun e w' => e = .returned (.float .f64 0) ∧ w = w' := by
  have CA := Lib.hid (fun W => abs_any x W hxw)
  have CS := Lib.hid (fun W => signbit_any x W hxw)
  rw [sx] at CS
  obtain ⟨a, ha⟩ : ∃ a, rung x = a := ⟨_, rfl⟩
  have CY := Lib.hid (fun W => isNaN_any y W)
  rw [ny] at CY
  have CX := Lib.hid (fun W => isNaN_any x W)
  rw [nx] at CX
  have CI := Lib.hid (fun W => isInf0_any y W hyw)
  rw [iy] at CI
  have CJ := Lib.hid (fun W => isInf0_any x W hxw)
  rw [ix] at CJ
  rw [ha] at CA
  clear sx ny hxw nx hyw iy ix ha
  go_enter Try.func31, Try.ntmps31
  go_wp2_with fail
  refine (CA.out _).mono ?_
  rintro e w' ⟨rfl, rfl⟩
  go_wp2_with fail
  refine (CS.out _).mono ?_
  rintro e w' ⟨rfl, rfl⟩
  go_wp2_with fail
  refine (CY.out _).mono ?_
  rintro e w' ⟨rfl, rfl⟩
  go_wp2_with fail
  refine (CX.out _).mono ?_
  rintro e w' ⟨rfl, rfl⟩
  go_wp2_with fail
  refine (CI.out _).mono ?_
  rintro e w' ⟨rfl, rfl⟩
  go_wp2_with fail
  refine (CJ.out _).mono ?_
  rintro e w' ⟨rfl, rfl⟩
  go_wp2_with fail
  refine (CJ.out _).mono ?_
  rintro e w' ⟨rfl, rfl⟩
  go_wp2
  go_ret
  exact ⟨rfl, rfl⟩
set_option maxRecDepth 100000 in
set_option maxHeartbeats 1000000 in
theorem vPow_xinf_f_e (x y : Nat) (w : World) (hxw : x < 18446744073709551616) (sx : fneg x = true) (CO : RowKit.Hid (∀ W : World, Calls Try.prog 64 #[.float .f64 y] W fun e w' => e = .returned (.bool false) ∧ W = w')) (ny : fnan y = false) (hy : (FloatKind.f64.format.order y 0 == some .eq) = false) (nx : fnan x = false) (hyw : y < 18446744073709551616) (iy : finf y = false) (ix : finf x = true) (h3 : (FloatKind.f64.format.order y 0 == some .gt) = false) : Calls Try.prog 31 #[.float .f64 x, .float .f64 y] w fun e w' => e = .returned (.float .f64 0) ∧ w = w' := by
  have CA := Lib.hid (fun W => abs_any x W hxw)
  have CS := Lib.hid (fun W => signbit_any x W hxw)
  rw [sx] at CS
  obtain ⟨a, ha⟩ : ∃ a, rung x = a := ⟨_, rfl⟩
  have CY := Lib.hid (fun W => isNaN_any y W)
  rw [ny] at CY
  have CX := Lib.hid (fun W => isNaN_any x W)
  rw [nx] at CX
  have CI := Lib.hid (fun W => isInf0_any y W hyw)
  rw [iy] at CI
  have CJ := Lib.hid (fun W => isInf0_any x W hxw)
  rw [ix] at CJ
  rw [ha] at CA
  clear sx ny hxw nx hyw iy ix ha
  go_enter Try.func31, Try.ntmps31
  go_wp2_with fail
  refine (CA.out _).mono ?_
  rintro e w' ⟨rfl, rfl⟩
  go_wp2_with fail
  refine (CS.out _).mono ?_
  rintro e w' ⟨rfl, rfl⟩
  go_wp2_with fail
  refine (CO.out _).mono ?_
  rintro e w' ⟨rfl, rfl⟩
  go_wp2_with fail
  refine (CY.out _).mono ?_
  rintro e w' ⟨rfl, rfl⟩
  go_wp2_with fail
  refine (CX.out _).mono ?_
  rintro e w' ⟨rfl, rfl⟩
  go_wp2_with fail
  refine (CI.out _).mono ?_
  rintro e w' ⟨rfl, rfl⟩
  go_wp2_with fail
  refine (CJ.out _).mono ?_
  rintro e w' ⟨rfl, rfl⟩
  go_wp2_with fail
  refine (CJ.out _).mono ?_
  rintro e w' ⟨rfl, rfl⟩
  go_wp2
  go_ret
  exact ⟨rfl, rfl⟩
set_option maxRecDepth 100000 in
set_option maxHeartbeats 1000000 in
theorem vPow_xinf_f_o (x y : Nat) (w : World) (hxw : x < 18446744073709551616) (sx : fneg x = true) (CO : RowKit.Hid (∀ W : World, Calls Try.prog 64 #[.float .f64 y] W fun e w' => e = .returned (.bool true) ∧ W = w')) (ny : fnan y = false) (hy : (FloatKind.f64.format.order y 0 == some .eq) = false) (nx : fnan x = false) (hyw : y < 18446744073709551616) (iy : finf y = false) (ix : finf x = true) (h3 : (FloatKind.f64.format.order y 0 == some .gt) = false) : Calls Try.prog 31 #[.float .f64 x, .float .f64 y] w fun e w' => e = .returned (.float .f64 (Op.negFloat .f64 0)) ∧ w = w' := by
  have CA := Lib.hid (fun W => abs_any x W hxw)
  have CS := Lib.hid (fun W => signbit_any x W hxw)
  rw [sx] at CS
  obtain ⟨a, ha⟩ : ∃ a, rung x = a := ⟨_, rfl⟩
  have CY := Lib.hid (fun W => isNaN_any y W)
  rw [ny] at CY
  have CX := Lib.hid (fun W => isNaN_any x W)
  rw [nx] at CX
  have CI := Lib.hid (fun W => isInf0_any y W hyw)
  rw [iy] at CI
  have CJ := Lib.hid (fun W => isInf0_any x W hxw)
  rw [ix] at CJ
  rw [ha] at CA
  have CN : ∀ W : World, (Op.unary UnOp.neg (.float .f64 0)).run Try.prog W = .ok (.float .f64 (Op.negFloat .f64 0)) W := fun W => rfl
  obtain ⟨z, hz⟩ : ∃ z, Op.negFloat .f64 0 = z := ⟨_, rfl⟩
  rw [hz] at CN ⊢
  clear sx ny hxw nx hyw iy ix ha hz
  go_enter Try.func31, Try.ntmps31
  go_wp2_with fail
  refine (CA.out _).mono ?_
  rintro e w' ⟨rfl, rfl⟩
  go_wp2_with fail
  refine (CS.out _).mono ?_
  rintro e w' ⟨rfl, rfl⟩
  go_wp2_with fail
  refine (CO.out _).mono ?_
  rintro e w' ⟨rfl, rfl⟩
  go_wp2_with fail
  refine (CY.out _).mono ?_
  rintro e w' ⟨rfl, rfl⟩
  go_wp2_with fail
  refine (CX.out _).mono ?_
  rintro e w' ⟨rfl, rfl⟩
  go_wp2_with fail
  refine (CI.out _).mono ?_
  rintro e w' ⟨rfl, rfl⟩
  go_wp2_with fail
  refine (CJ.out _).mono ?_
  rintro e w' ⟨rfl, rfl⟩
  go_wp2_with fail
  refine (CJ.out _).mono ?_
  rintro e w' ⟨rfl, rfl⟩
  go_wp2
  go_ret
  exact ⟨rfl, rfl⟩
set_option maxRecDepth 100000 in
set_option maxHeartbeats 1000000 in
theorem vPow_xzero_f_p (x y : Nat) (w : World) (hxw : x < 18446744073709551616) (sx : fneg x = false) (ny : fnan y = false) (hy : (FloatKind.f64.format.order y 0 == some .eq) = false) (nx : fnan x = false) (hyw : y < 18446744073709551616) (iy : finf y = false) (ix : finf x = false) (zx : (FloatKind.f64.format.order x 0 == some .eq) = true) (h3 : (FloatKind.f64.format.order y 0 == some .gt) = false) : Calls Try.prog 31 #[.float .f64 x, .float .f64 y] w fun e w' => e = .returned (.float .f64 9218868437227405312) ∧ w = w' := by
  have CA := Lib.hid (fun W => abs_any x W hxw)
  have CS := Lib.hid (fun W => signbit_any x W hxw)
  rw [sx] at CS
  obtain ⟨a, ha⟩ : ∃ a, rung x = a := ⟨_, rfl⟩
  have CY := Lib.hid (fun W => isNaN_any y W)
  rw [ny] at CY
  have CX := Lib.hid (fun W => isNaN_any x W)
  rw [nx] at CX
  have CI := Lib.hid (fun W => isInf0_any y W hyw)
  rw [iy] at CI
  have CJ := Lib.hid (fun W => isInf0_any x W hxw)
  rw [ix] at CJ
  have C1 := Lib.hid (fun W => inf1_any W)
  rw [ha] at CA
  clear sx ny hxw nx hyw iy ix ha
  go_enter Try.func31, Try.ntmps31
  go_wp2_with fail
  refine (CA.out _).mono ?_
  rintro e w' ⟨rfl, rfl⟩
  go_wp2_with fail
  refine (CS.out _).mono ?_
  rintro e w' ⟨rfl, rfl⟩
  go_wp2_with fail
  refine (CY.out _).mono ?_
  rintro e w' ⟨rfl, rfl⟩
  go_wp2_with fail
  refine (CX.out _).mono ?_
  rintro e w' ⟨rfl, rfl⟩
  go_wp2_with fail
  refine (CI.out _).mono ?_
  rintro e w' ⟨rfl, rfl⟩
  go_wp2_with fail
  refine (CJ.out _).mono ?_
  rintro e w' ⟨rfl, rfl⟩
  go_wp2_with fail
  refine (CJ.out _).mono ?_
  rintro e w' ⟨rfl, rfl⟩
  go_wp2_with fail
  refine (C1.out _).mono ?_
  rintro e w' ⟨rfl, rfl⟩
  go_wp2
  go_ret
  exact ⟨rfl, rfl⟩
set_option maxRecDepth 100000 in
set_option maxHeartbeats 1000000 in
theorem vPow_xzero_f_e (x y : Nat) (w : World) (hxw : x < 18446744073709551616) (sx : fneg x = true) (CO : RowKit.Hid (∀ W : World, Calls Try.prog 64 #[.float .f64 y] W fun e w' => e = .returned (.bool false) ∧ W = w')) (ny : fnan y = false) (hy : (FloatKind.f64.format.order y 0 == some .eq) = false) (nx : fnan x = false) (hyw : y < 18446744073709551616) (iy : finf y = false) (ix : finf x = false) (zx : (FloatKind.f64.format.order x 0 == some .eq) = true) (h3 : (FloatKind.f64.format.order y 0 == some .gt) = false) : Calls Try.prog 31 #[.float .f64 x, .float .f64 y] w fun e w' => e = .returned (.float .f64 9218868437227405312) ∧ w = w' := by
  have CA := Lib.hid (fun W => abs_any x W hxw)
  have CS := Lib.hid (fun W => signbit_any x W hxw)
  rw [sx] at CS
  obtain ⟨a, ha⟩ : ∃ a, rung x = a := ⟨_, rfl⟩
  have CY := Lib.hid (fun W => isNaN_any y W)
  rw [ny] at CY
  have CX := Lib.hid (fun W => isNaN_any x W)
  rw [nx] at CX
  have CI := Lib.hid (fun W => isInf0_any y W hyw)
  rw [iy] at CI
  have CJ := Lib.hid (fun W => isInf0_any x W hxw)
  rw [ix] at CJ
  have C1 := Lib.hid (fun W => inf1_any W)
  rw [ha] at CA
  clear sx ny hxw nx hyw iy ix ha
  go_enter Try.func31, Try.ntmps31
  go_wp2_with fail
  refine (CA.out _).mono ?_
  rintro e w' ⟨rfl, rfl⟩
  go_wp2_with fail
  refine (CS.out _).mono ?_
  rintro e w' ⟨rfl, rfl⟩
  go_wp2_with fail
  refine (CO.out _).mono ?_
  rintro e w' ⟨rfl, rfl⟩
  go_wp2_with fail
  refine (CY.out _).mono ?_
  rintro e w' ⟨rfl, rfl⟩
  go_wp2_with fail
  refine (CX.out _).mono ?_
  rintro e w' ⟨rfl, rfl⟩
  go_wp2_with fail
  refine (CI.out _).mono ?_
  rintro e w' ⟨rfl, rfl⟩
  go_wp2_with fail
  refine (CJ.out _).mono ?_
  rintro e w' ⟨rfl, rfl⟩
  go_wp2_with fail
  refine (CJ.out _).mono ?_
  rintro e w' ⟨rfl, rfl⟩
  go_wp2_with fail
  refine (C1.out _).mono ?_
  rintro e w' ⟨rfl, rfl⟩
  go_wp2
  go_ret
  exact ⟨rfl, rfl⟩
set_option maxRecDepth 100000 in
set_option maxHeartbeats 1000000 in
theorem vPow_xzero_f_o (x y : Nat) (w : World) (hxw : x < 18446744073709551616) (sx : fneg x = true) (CO : RowKit.Hid (∀ W : World, Calls Try.prog 64 #[.float .f64 y] W fun e w' => e = .returned (.bool true) ∧ W = w')) (ny : fnan y = false) (hy : (FloatKind.f64.format.order y 0 == some .eq) = false) (nx : fnan x = false) (hyw : y < 18446744073709551616) (iy : finf y = false) (ix : finf x = false) (zx : (FloatKind.f64.format.order x 0 == some .eq) = true) (h3 : (FloatKind.f64.format.order y 0 == some .gt) = false) : Calls Try.prog 31 #[.float .f64 x, .float .f64 y] w fun e w' => e = .returned (.float .f64 (Op.negFloat .f64 9218868437227405312)) ∧ w = w' := by
  have CA := Lib.hid (fun W => abs_any x W hxw)
  have CS := Lib.hid (fun W => signbit_any x W hxw)
  rw [sx] at CS
  obtain ⟨a, ha⟩ : ∃ a, rung x = a := ⟨_, rfl⟩
  have CY := Lib.hid (fun W => isNaN_any y W)
  rw [ny] at CY
  have CX := Lib.hid (fun W => isNaN_any x W)
  rw [nx] at CX
  have CI := Lib.hid (fun W => isInf0_any y W hyw)
  rw [iy] at CI
  have CJ := Lib.hid (fun W => isInf0_any x W hxw)
  rw [ix] at CJ
  have C1 := Lib.hid (fun W => inf1_any W)
  rw [ha] at CA
  have CN : ∀ W : World, (Op.unary UnOp.neg (.float .f64 9218868437227405312)).run Try.prog W = .ok (.float .f64 (Op.negFloat .f64 9218868437227405312)) W := fun W => rfl
  obtain ⟨z, hz⟩ : ∃ z, Op.negFloat .f64 9218868437227405312 = z := ⟨_, rfl⟩
  rw [hz] at CN ⊢
  clear sx ny hxw nx hyw iy ix ha hz
  go_enter Try.func31, Try.ntmps31
  go_wp2_with fail
  refine (CA.out _).mono ?_
  rintro e w' ⟨rfl, rfl⟩
  go_wp2_with fail
  refine (CS.out _).mono ?_
  rintro e w' ⟨rfl, rfl⟩
  go_wp2_with fail
  refine (CO.out _).mono ?_
  rintro e w' ⟨rfl, rfl⟩
  go_wp2_with fail
  refine (CY.out _).mono ?_
  rintro e w' ⟨rfl, rfl⟩
  go_wp2_with fail
  refine (CX.out _).mono ?_
  rintro e w' ⟨rfl, rfl⟩
  go_wp2_with fail
  refine (CI.out _).mono ?_
  rintro e w' ⟨rfl, rfl⟩
  go_wp2_with fail
  refine (CJ.out _).mono ?_
  rintro e w' ⟨rfl, rfl⟩
  go_wp2_with fail
  refine (CJ.out _).mono ?_
  rintro e w' ⟨rfl, rfl⟩
  go_wp2_with fail
  refine (C1.out _).mono ?_
  rintro e w' ⟨rfl, rfl⟩
  go_wp2
  go_ret
  exact ⟨rfl, rfl⟩
set_option maxRecDepth 100000 in
set_option maxHeartbeats 1000000 in
theorem vPow_root_p (x y : Nat) (w : World) (hxw : x < 18446744073709551616) (sx : fneg x = false) (ny : fnan y = false) (hy : (FloatKind.f64.format.order y 0 == some .eq) = false) (nx : fnan x = false) (hyw : y < 18446744073709551616) (iy : finf y = false) (ix : finf x = false) (zx : (FloatKind.f64.format.order x 0 == some .eq) = false) (hF : Fin64 y) (lx : (FloatKind.f64.format.order x 0 == some .lt) = true) (wy : whl y = false) : Calls Try.prog 31 #[.float .f64 x, .float .f64 y] w fun e w' => e = .returned (.float .f64 9221120237041090560) ∧ w = w' := by
  have CA := Lib.hid (fun W => abs_any x W hxw)
  have CS := Lib.hid (fun W => signbit_any x W hxw)
  rw [sx] at CS
  obtain ⟨a, ha⟩ : ∃ a, rung x = a := ⟨_, rfl⟩
  have CY := Lib.hid (fun W => isNaN_any y W)
  rw [ny] at CY
  have CX := Lib.hid (fun W => isNaN_any x W)
  rw [nx] at CX
  have CI := Lib.hid (fun W => isInf0_any y W hyw)
  rw [iy] at CI
  have CJ := Lib.hid (fun W => isInf0_any x W hxw)
  rw [ix] at CJ
  have CT := Lib.hid (fun W => Trunc_real y W (fnan_of hF))
  have wz := (whl_zero hF).1
  obtain ⟨k, hk⟩ : ∃ k, itg .zero y = k := ⟨_, rfl⟩
  rw [hk] at CT wz
  rw [wy] at wz
  have wn : (FloatKind.f64.format.order k y != some .eq) = !false := by rw [← wz]; rfl
  have CQ := Lib.hid (fun W => vnan_any W)
  rw [ha] at CA
  clear sx ny hxw nx hyw iy ix hF wy hk ha
  go_enter Try.func31, Try.ntmps31
  go_wp2_with fail
  refine (CA.out _).mono ?_
  rintro e w' ⟨rfl, rfl⟩
  go_wp2_with fail
  refine (CS.out _).mono ?_
  rintro e w' ⟨rfl, rfl⟩
  go_wp2_with fail
  refine (CY.out _).mono ?_
  rintro e w' ⟨rfl, rfl⟩
  go_wp2_with fail
  refine (CX.out _).mono ?_
  rintro e w' ⟨rfl, rfl⟩
  go_wp2_with fail
  refine (CI.out _).mono ?_
  rintro e w' ⟨rfl, rfl⟩
  go_wp2_with fail
  refine (CJ.out _).mono ?_
  rintro e w' ⟨rfl, rfl⟩
  go_wp2_with fail
  refine (CT.out _).mono ?_
  rintro e w' ⟨rfl, rfl⟩
  go_wp2_with fail
  refine (CQ.out _).mono ?_
  rintro e w' ⟨rfl, rfl⟩
  go_wp2
  go_ret
  exact ⟨rfl, rfl⟩
set_option maxRecDepth 100000 in
set_option maxHeartbeats 1000000 in
theorem vPow_root_e (x y : Nat) (w : World) (hxw : x < 18446744073709551616) (sx : fneg x = true) (CO : RowKit.Hid (∀ W : World, Calls Try.prog 64 #[.float .f64 y] W fun e w' => e = .returned (.bool false) ∧ W = w')) (ny : fnan y = false) (hy : (FloatKind.f64.format.order y 0 == some .eq) = false) (nx : fnan x = false) (hyw : y < 18446744073709551616) (iy : finf y = false) (ix : finf x = false) (zx : (FloatKind.f64.format.order x 0 == some .eq) = false) (hF : Fin64 y) (lx : (FloatKind.f64.format.order x 0 == some .lt) = true) (wy : whl y = false) : Calls Try.prog 31 #[.float .f64 x, .float .f64 y] w fun e w' => e = .returned (.float .f64 9221120237041090560) ∧ w = w' := by
  have CA := Lib.hid (fun W => abs_any x W hxw)
  have CS := Lib.hid (fun W => signbit_any x W hxw)
  rw [sx] at CS
  obtain ⟨a, ha⟩ : ∃ a, rung x = a := ⟨_, rfl⟩
  have CY := Lib.hid (fun W => isNaN_any y W)
  rw [ny] at CY
  have CX := Lib.hid (fun W => isNaN_any x W)
  rw [nx] at CX
  have CI := Lib.hid (fun W => isInf0_any y W hyw)
  rw [iy] at CI
  have CJ := Lib.hid (fun W => isInf0_any x W hxw)
  rw [ix] at CJ
  have CT := Lib.hid (fun W => Trunc_real y W (fnan_of hF))
  have wz := (whl_zero hF).1
  obtain ⟨k, hk⟩ : ∃ k, itg .zero y = k := ⟨_, rfl⟩
  rw [hk] at CT wz
  rw [wy] at wz
  have wn : (FloatKind.f64.format.order k y != some .eq) = !false := by rw [← wz]; rfl
  have CQ := Lib.hid (fun W => vnan_any W)
  rw [ha] at CA
  clear sx ny hxw nx hyw iy ix hF wy hk ha
  go_enter Try.func31, Try.ntmps31
  go_wp2_with fail
  refine (CA.out _).mono ?_
  rintro e w' ⟨rfl, rfl⟩
  go_wp2_with fail
  refine (CS.out _).mono ?_
  rintro e w' ⟨rfl, rfl⟩
  go_wp2_with fail
  refine (CO.out _).mono ?_
  rintro e w' ⟨rfl, rfl⟩
  go_wp2_with fail
  refine (CY.out _).mono ?_
  rintro e w' ⟨rfl, rfl⟩
  go_wp2_with fail
  refine (CX.out _).mono ?_
  rintro e w' ⟨rfl, rfl⟩
  go_wp2_with fail
  refine (CI.out _).mono ?_
  rintro e w' ⟨rfl, rfl⟩
  go_wp2_with fail
  refine (CJ.out _).mono ?_
  rintro e w' ⟨rfl, rfl⟩
  go_wp2_with fail
  refine (CT.out _).mono ?_
  rintro e w' ⟨rfl, rfl⟩
  go_wp2_with fail
  refine (CQ.out _).mono ?_
  rintro e w' ⟨rfl, rfl⟩
  go_wp2
  go_ret
  exact ⟨rfl, rfl⟩
set_option maxRecDepth 100000 in
set_option maxHeartbeats 1000000 in
theorem vPow_root_o (x y : Nat) (w : World) (hxw : x < 18446744073709551616) (sx : fneg x = true) (CO : RowKit.Hid (∀ W : World, Calls Try.prog 64 #[.float .f64 y] W fun e w' => e = .returned (.bool true) ∧ W = w')) (ny : fnan y = false) (hy : (FloatKind.f64.format.order y 0 == some .eq) = false) (nx : fnan x = false) (hyw : y < 18446744073709551616) (iy : finf y = false) (ix : finf x = false) (zx : (FloatKind.f64.format.order x 0 == some .eq) = false) (hF : Fin64 y) (lx : (FloatKind.f64.format.order x 0 == some .lt) = true) (wy : whl y = false) : Calls Try.prog 31 #[.float .f64 x, .float .f64 y] w fun e w' => e = .returned (.float .f64 9221120237041090560) ∧ w = w' := by
  have CA := Lib.hid (fun W => abs_any x W hxw)
  have CS := Lib.hid (fun W => signbit_any x W hxw)
  rw [sx] at CS
  obtain ⟨a, ha⟩ : ∃ a, rung x = a := ⟨_, rfl⟩
  have CY := Lib.hid (fun W => isNaN_any y W)
  rw [ny] at CY
  have CX := Lib.hid (fun W => isNaN_any x W)
  rw [nx] at CX
  have CI := Lib.hid (fun W => isInf0_any y W hyw)
  rw [iy] at CI
  have CJ := Lib.hid (fun W => isInf0_any x W hxw)
  rw [ix] at CJ
  have CT := Lib.hid (fun W => Trunc_real y W (fnan_of hF))
  have wz := (whl_zero hF).1
  obtain ⟨k, hk⟩ : ∃ k, itg .zero y = k := ⟨_, rfl⟩
  rw [hk] at CT wz
  rw [wy] at wz
  have wn : (FloatKind.f64.format.order k y != some .eq) = !false := by rw [← wz]; rfl
  have CQ := Lib.hid (fun W => vnan_any W)
  rw [ha] at CA
  clear sx ny hxw nx hyw iy ix hF wy hk ha
  go_enter Try.func31, Try.ntmps31
  go_wp2_with fail
  refine (CA.out _).mono ?_
  rintro e w' ⟨rfl, rfl⟩
  go_wp2_with fail
  refine (CS.out _).mono ?_
  rintro e w' ⟨rfl, rfl⟩
  go_wp2_with fail
  refine (CO.out _).mono ?_
  rintro e w' ⟨rfl, rfl⟩
  go_wp2_with fail
  refine (CY.out _).mono ?_
  rintro e w' ⟨rfl, rfl⟩
  go_wp2_with fail
  refine (CX.out _).mono ?_
  rintro e w' ⟨rfl, rfl⟩
  go_wp2_with fail
  refine (CI.out _).mono ?_
  rintro e w' ⟨rfl, rfl⟩
  go_wp2_with fail
  refine (CJ.out _).mono ?_
  rintro e w' ⟨rfl, rfl⟩
  go_wp2_with fail
  refine (CT.out _).mono ?_
  rintro e w' ⟨rfl, rfl⟩
  go_wp2_with fail
  refine (CQ.out _).mono ?_
  rintro e w' ⟨rfl, rfl⟩
  go_wp2
  go_ret
  exact ⟨rfl, rfl⟩
set_option maxRecDepth 100000 in
set_option maxHeartbeats 1000000 in
theorem vPow_pow_t_p (x y r : Nat) (w : World) (hxw : x < 18446744073709551616) (sx : fneg x = false) (ny : fnan y = false) (hy : (FloatKind.f64.format.order y 0 == some .eq) = false) (nx : fnan x = false) (hyw : y < 18446744073709551616) (iy : finf y = false) (ix : finf x = false) (zx : (FloatKind.f64.format.order x 0 == some .eq) = false) (hF : Fin64 y) (lx : (FloatKind.f64.format.order x 0 == some .lt) = true) (wy : whl y = true) (hle : ((FloatKind.f64.format.order (rung y) 4652218415073722368 == some .lt || FloatKind.f64.format.order (rung y) 4652218415073722368 == some .eq) = true)) (CP : RowKit.Hid (∀ W : World, Calls Try.prog 66 #[.float .f64 (rung x), .float .f64 y] W fun e w' => e = .returned (.float .f64 r) ∧ W = w')) : Calls Try.prog 31 #[.float .f64 x, .float .f64 y] w fun e w' => e = .returned (.float .f64 r) ∧ w = w' := by
  have CA := Lib.hid (fun W => abs_any x W hxw)
  have CS := Lib.hid (fun W => signbit_any x W hxw)
  rw [sx] at CS
  obtain ⟨a, ha⟩ : ∃ a, rung x = a := ⟨_, rfl⟩
  have CY := Lib.hid (fun W => isNaN_any y W)
  rw [ny] at CY
  have CX := Lib.hid (fun W => isNaN_any x W)
  rw [nx] at CX
  have CI := Lib.hid (fun W => isInf0_any y W hyw)
  rw [iy] at CI
  have CJ := Lib.hid (fun W => isInf0_any x W hxw)
  rw [ix] at CJ
  have CT := Lib.hid (fun W => Trunc_real y W (fnan_of hF))
  have wz := (whl_zero hF).1
  obtain ⟨k, hk⟩ : ∃ k, itg .zero y = k := ⟨_, rfl⟩
  rw [hk] at CT wz
  rw [wy] at wz
  have wn : (FloatKind.f64.format.order k y != some .eq) = !true := by rw [← wz]; rfl
  have CB := Lib.hid (fun W => abs_any y W hyw)
  obtain ⟨q, hq⟩ : ∃ q, rung y = q := ⟨_, rfl⟩
  rw [hq] at CB hle
  rw [ha] at CA CP
  clear sx ny hxw nx hyw iy ix hF wy hk hq ha
  go_enter Try.func31, Try.ntmps31
  go_wp2_with fail
  refine (CA.out _).mono ?_
  rintro e w' ⟨rfl, rfl⟩
  go_wp2_with fail
  refine (CS.out _).mono ?_
  rintro e w' ⟨rfl, rfl⟩
  go_wp2_with fail
  refine (CY.out _).mono ?_
  rintro e w' ⟨rfl, rfl⟩
  go_wp2_with fail
  refine (CX.out _).mono ?_
  rintro e w' ⟨rfl, rfl⟩
  go_wp2_with fail
  refine (CI.out _).mono ?_
  rintro e w' ⟨rfl, rfl⟩
  go_wp2_with fail
  refine (CJ.out _).mono ?_
  rintro e w' ⟨rfl, rfl⟩
  go_wp2_with fail
  refine (CT.out _).mono ?_
  rintro e w' ⟨rfl, rfl⟩
  go_wp2_with fail
  refine (CT.out _).mono ?_
  rintro e w' ⟨rfl, rfl⟩
  go_wp2_with fail
  refine (CB.out _).mono ?_
  rintro e w' ⟨rfl, rfl⟩
  go_wp2_with fail
  refine (CP.out _).mono ?_
  rintro e w' ⟨rfl, rfl⟩
  go_wp2
  go_ret
  exact ⟨rfl, rfl⟩
set_option maxRecDepth 100000 in
set_option maxHeartbeats 1000000 in
theorem vPow_pow_t_e (x y r : Nat) (w : World) (hxw : x < 18446744073709551616) (sx : fneg x = true) (CO : RowKit.Hid (∀ W : World, Calls Try.prog 64 #[.float .f64 y] W fun e w' => e = .returned (.bool false) ∧ W = w')) (ny : fnan y = false) (hy : (FloatKind.f64.format.order y 0 == some .eq) = false) (nx : fnan x = false) (hyw : y < 18446744073709551616) (iy : finf y = false) (ix : finf x = false) (zx : (FloatKind.f64.format.order x 0 == some .eq) = false) (hF : Fin64 y) (lx : (FloatKind.f64.format.order x 0 == some .lt) = true) (wy : whl y = true) (hle : ((FloatKind.f64.format.order (rung y) 4652218415073722368 == some .lt || FloatKind.f64.format.order (rung y) 4652218415073722368 == some .eq) = true)) (CP : RowKit.Hid (∀ W : World, Calls Try.prog 66 #[.float .f64 (rung x), .float .f64 y] W fun e w' => e = .returned (.float .f64 r) ∧ W = w')) : Calls Try.prog 31 #[.float .f64 x, .float .f64 y] w fun e w' => e = .returned (.float .f64 r) ∧ w = w' := by
  have CA := Lib.hid (fun W => abs_any x W hxw)
  have CS := Lib.hid (fun W => signbit_any x W hxw)
  rw [sx] at CS
  obtain ⟨a, ha⟩ : ∃ a, rung x = a := ⟨_, rfl⟩
  have CY := Lib.hid (fun W => isNaN_any y W)
  rw [ny] at CY
  have CX := Lib.hid (fun W => isNaN_any x W)
  rw [nx] at CX
  have CI := Lib.hid (fun W => isInf0_any y W hyw)
  rw [iy] at CI
  have CJ := Lib.hid (fun W => isInf0_any x W hxw)
  rw [ix] at CJ
  have CT := Lib.hid (fun W => Trunc_real y W (fnan_of hF))
  have wz := (whl_zero hF).1
  obtain ⟨k, hk⟩ : ∃ k, itg .zero y = k := ⟨_, rfl⟩
  rw [hk] at CT wz
  rw [wy] at wz
  have wn : (FloatKind.f64.format.order k y != some .eq) = !true := by rw [← wz]; rfl
  have CB := Lib.hid (fun W => abs_any y W hyw)
  obtain ⟨q, hq⟩ : ∃ q, rung y = q := ⟨_, rfl⟩
  rw [hq] at CB hle
  rw [ha] at CA CP
  clear sx ny hxw nx hyw iy ix hF wy hk hq ha
  go_enter Try.func31, Try.ntmps31
  go_wp2_with fail
  refine (CA.out _).mono ?_
  rintro e w' ⟨rfl, rfl⟩
  go_wp2_with fail
  refine (CS.out _).mono ?_
  rintro e w' ⟨rfl, rfl⟩
  go_wp2_with fail
  refine (CO.out _).mono ?_
  rintro e w' ⟨rfl, rfl⟩
  go_wp2_with fail
  refine (CY.out _).mono ?_
  rintro e w' ⟨rfl, rfl⟩
  go_wp2_with fail
  refine (CX.out _).mono ?_
  rintro e w' ⟨rfl, rfl⟩
  go_wp2_with fail
  refine (CI.out _).mono ?_
  rintro e w' ⟨rfl, rfl⟩
  go_wp2_with fail
  refine (CJ.out _).mono ?_
  rintro e w' ⟨rfl, rfl⟩
  go_wp2_with fail
  refine (CT.out _).mono ?_
  rintro e w' ⟨rfl, rfl⟩
  go_wp2_with fail
  refine (CT.out _).mono ?_
  rintro e w' ⟨rfl, rfl⟩
  go_wp2_with fail
  refine (CB.out _).mono ?_
  rintro e w' ⟨rfl, rfl⟩
  go_wp2_with fail
  refine (CP.out _).mono ?_
  rintro e w' ⟨rfl, rfl⟩
  go_wp2
  go_ret
  exact ⟨rfl, rfl⟩
set_option maxRecDepth 100000 in
set_option maxHeartbeats 1000000 in
theorem vPow_pow_t_o (x y r : Nat) (w : World) (hxw : x < 18446744073709551616) (sx : fneg x = true) (CO : RowKit.Hid (∀ W : World, Calls Try.prog 64 #[.float .f64 y] W fun e w' => e = .returned (.bool true) ∧ W = w')) (ny : fnan y = false) (hy : (FloatKind.f64.format.order y 0 == some .eq) = false) (nx : fnan x = false) (hyw : y < 18446744073709551616) (iy : finf y = false) (ix : finf x = false) (zx : (FloatKind.f64.format.order x 0 == some .eq) = false) (hF : Fin64 y) (lx : (FloatKind.f64.format.order x 0 == some .lt) = true) (wy : whl y = true) (hle : ((FloatKind.f64.format.order (rung y) 4652218415073722368 == some .lt || FloatKind.f64.format.order (rung y) 4652218415073722368 == some .eq) = true)) (CP : RowKit.Hid (∀ W : World, Calls Try.prog 66 #[.float .f64 (rung x), .float .f64 y] W fun e w' => e = .returned (.float .f64 r) ∧ W = w')) : Calls Try.prog 31 #[.float .f64 x, .float .f64 y] w fun e w' => e = .returned (.float .f64 (Op.negFloat .f64 r)) ∧ w = w' := by
  have CA := Lib.hid (fun W => abs_any x W hxw)
  have CS := Lib.hid (fun W => signbit_any x W hxw)
  rw [sx] at CS
  obtain ⟨a, ha⟩ : ∃ a, rung x = a := ⟨_, rfl⟩
  have CY := Lib.hid (fun W => isNaN_any y W)
  rw [ny] at CY
  have CX := Lib.hid (fun W => isNaN_any x W)
  rw [nx] at CX
  have CI := Lib.hid (fun W => isInf0_any y W hyw)
  rw [iy] at CI
  have CJ := Lib.hid (fun W => isInf0_any x W hxw)
  rw [ix] at CJ
  have CT := Lib.hid (fun W => Trunc_real y W (fnan_of hF))
  have wz := (whl_zero hF).1
  obtain ⟨k, hk⟩ : ∃ k, itg .zero y = k := ⟨_, rfl⟩
  rw [hk] at CT wz
  rw [wy] at wz
  have wn : (FloatKind.f64.format.order k y != some .eq) = !true := by rw [← wz]; rfl
  have CB := Lib.hid (fun W => abs_any y W hyw)
  obtain ⟨q, hq⟩ : ∃ q, rung y = q := ⟨_, rfl⟩
  rw [hq] at CB hle
  rw [ha] at CA CP
  have CN : ∀ W : World, (Op.unary UnOp.neg (.float .f64 r)).run Try.prog W = .ok (.float .f64 (Op.negFloat .f64 r)) W := fun W => rfl
  obtain ⟨z, hz⟩ : ∃ z, Op.negFloat .f64 r = z := ⟨_, rfl⟩
  rw [hz] at CN ⊢
  clear sx ny hxw nx hyw iy ix hF wy hk hq ha hz
  go_enter Try.func31, Try.ntmps31
  go_wp2_with fail
  refine (CA.out _).mono ?_
  rintro e w' ⟨rfl, rfl⟩
  go_wp2_with fail
  refine (CS.out _).mono ?_
  rintro e w' ⟨rfl, rfl⟩
  go_wp2_with fail
  refine (CO.out _).mono ?_
  rintro e w' ⟨rfl, rfl⟩
  go_wp2_with fail
  refine (CY.out _).mono ?_
  rintro e w' ⟨rfl, rfl⟩
  go_wp2_with fail
  refine (CX.out _).mono ?_
  rintro e w' ⟨rfl, rfl⟩
  go_wp2_with fail
  refine (CI.out _).mono ?_
  rintro e w' ⟨rfl, rfl⟩
  go_wp2_with fail
  refine (CJ.out _).mono ?_
  rintro e w' ⟨rfl, rfl⟩
  go_wp2_with fail
  refine (CT.out _).mono ?_
  rintro e w' ⟨rfl, rfl⟩
  go_wp2_with fail
  refine (CT.out _).mono ?_
  rintro e w' ⟨rfl, rfl⟩
  go_wp2_with fail
  refine (CB.out _).mono ?_
  rintro e w' ⟨rfl, rfl⟩
  go_wp2_with fail
  refine (CP.out _).mono ?_
  rintro e w' ⟨rfl, rfl⟩
  go_wp2
  go_ret
  exact ⟨rfl, rfl⟩
set_option maxRecDepth 100000 in
set_option maxHeartbeats 1000000 in
theorem vPow_far_t_p (x y l t r : Nat) (w : World) (hxw : x < 18446744073709551616) (sx : fneg x = false) (ny : fnan y = false) (hy : (FloatKind.f64.format.order y 0 == some .eq) = false) (nx : fnan x = false) (hyw : y < 18446744073709551616) (iy : finf y = false) (ix : finf x = false) (zx : (FloatKind.f64.format.order x 0 == some .eq) = false) (hF : Fin64 y) (lx : (FloatKind.f64.format.order x 0 == some .lt) = true) (wy : whl y = true) (hle : ((FloatKind.f64.format.order (rung y) 4652218415073722368 == some .lt || FloatKind.f64.format.order (rung y) 4652218415073722368 == some .eq) = false)) (m : Ieee.double.mul y l = some t) (CL : RowKit.Hid (∀ W : World, Calls Try.prog 14 #[.float .f64 (rung x)] W fun e w' => e = .returned (.float .f64 l) ∧ W = w')) (CE : RowKit.Hid (∀ W : World, Calls Try.prog 12 #[.float .f64 t] W fun e w' => e = .returned (.float .f64 r) ∧ W = w')) : Calls Try.prog 31 #[.float .f64 x, .float .f64 y] w fun e w' => e = .returned (.float .f64 r) ∧ w = w' := by
  have CA := Lib.hid (fun W => abs_any x W hxw)
  have CS := Lib.hid (fun W => signbit_any x W hxw)
  rw [sx] at CS
  obtain ⟨a, ha⟩ : ∃ a, rung x = a := ⟨_, rfl⟩
  have CY := Lib.hid (fun W => isNaN_any y W)
  rw [ny] at CY
  have CX := Lib.hid (fun W => isNaN_any x W)
  rw [nx] at CX
  have CI := Lib.hid (fun W => isInf0_any y W hyw)
  rw [iy] at CI
  have CJ := Lib.hid (fun W => isInf0_any x W hxw)
  rw [ix] at CJ
  have CT := Lib.hid (fun W => Trunc_real y W (fnan_of hF))
  have wz := (whl_zero hF).1
  obtain ⟨k, hk⟩ : ∃ k, itg .zero y = k := ⟨_, rfl⟩
  rw [hk] at CT wz
  rw [wy] at wz
  have wn : (FloatKind.f64.format.order k y != some .eq) = !true := by rw [← wz]; rfl
  have CB := Lib.hid (fun W => abs_any y W hyw)
  obtain ⟨q, hq⟩ : ∃ q, rung y = q := ⟨_, rfl⟩
  have wm := wMul m
  rw [hq] at CB hle
  rw [ha] at CA CL
  clear sx ny hxw nx hyw iy ix hF wy hk hq m ha
  go_enter Try.func31, Try.ntmps31
  go_wp2_with fail
  refine (CA.out _).mono ?_
  rintro e w' ⟨rfl, rfl⟩
  go_wp2_with fail
  refine (CS.out _).mono ?_
  rintro e w' ⟨rfl, rfl⟩
  go_wp2_with fail
  refine (CY.out _).mono ?_
  rintro e w' ⟨rfl, rfl⟩
  go_wp2_with fail
  refine (CX.out _).mono ?_
  rintro e w' ⟨rfl, rfl⟩
  go_wp2_with fail
  refine (CI.out _).mono ?_
  rintro e w' ⟨rfl, rfl⟩
  go_wp2_with fail
  refine (CJ.out _).mono ?_
  rintro e w' ⟨rfl, rfl⟩
  go_wp2_with fail
  refine (CT.out _).mono ?_
  rintro e w' ⟨rfl, rfl⟩
  go_wp2_with fail
  refine (CT.out _).mono ?_
  rintro e w' ⟨rfl, rfl⟩
  go_wp2_with fail
  refine (CB.out _).mono ?_
  rintro e w' ⟨rfl, rfl⟩
  go_wp2_with fail
  refine (CL.out _).mono ?_
  rintro e w' ⟨rfl, rfl⟩
  go_wp2_with fail
  refine (CE.out _).mono ?_
  rintro e w' ⟨rfl, rfl⟩
  go_wp2
  go_ret
  exact ⟨rfl, rfl⟩
set_option maxRecDepth 100000 in
set_option maxHeartbeats 1000000 in
theorem vPow_far_t_e (x y l t r : Nat) (w : World) (hxw : x < 18446744073709551616) (sx : fneg x = true) (CO : RowKit.Hid (∀ W : World, Calls Try.prog 64 #[.float .f64 y] W fun e w' => e = .returned (.bool false) ∧ W = w')) (ny : fnan y = false) (hy : (FloatKind.f64.format.order y 0 == some .eq) = false) (nx : fnan x = false) (hyw : y < 18446744073709551616) (iy : finf y = false) (ix : finf x = false) (zx : (FloatKind.f64.format.order x 0 == some .eq) = false) (hF : Fin64 y) (lx : (FloatKind.f64.format.order x 0 == some .lt) = true) (wy : whl y = true) (hle : ((FloatKind.f64.format.order (rung y) 4652218415073722368 == some .lt || FloatKind.f64.format.order (rung y) 4652218415073722368 == some .eq) = false)) (m : Ieee.double.mul y l = some t) (CL : RowKit.Hid (∀ W : World, Calls Try.prog 14 #[.float .f64 (rung x)] W fun e w' => e = .returned (.float .f64 l) ∧ W = w')) (CE : RowKit.Hid (∀ W : World, Calls Try.prog 12 #[.float .f64 t] W fun e w' => e = .returned (.float .f64 r) ∧ W = w')) : Calls Try.prog 31 #[.float .f64 x, .float .f64 y] w fun e w' => e = .returned (.float .f64 r) ∧ w = w' := by
  have CA := Lib.hid (fun W => abs_any x W hxw)
  have CS := Lib.hid (fun W => signbit_any x W hxw)
  rw [sx] at CS
  obtain ⟨a, ha⟩ : ∃ a, rung x = a := ⟨_, rfl⟩
  have CY := Lib.hid (fun W => isNaN_any y W)
  rw [ny] at CY
  have CX := Lib.hid (fun W => isNaN_any x W)
  rw [nx] at CX
  have CI := Lib.hid (fun W => isInf0_any y W hyw)
  rw [iy] at CI
  have CJ := Lib.hid (fun W => isInf0_any x W hxw)
  rw [ix] at CJ
  have CT := Lib.hid (fun W => Trunc_real y W (fnan_of hF))
  have wz := (whl_zero hF).1
  obtain ⟨k, hk⟩ : ∃ k, itg .zero y = k := ⟨_, rfl⟩
  rw [hk] at CT wz
  rw [wy] at wz
  have wn : (FloatKind.f64.format.order k y != some .eq) = !true := by rw [← wz]; rfl
  have CB := Lib.hid (fun W => abs_any y W hyw)
  obtain ⟨q, hq⟩ : ∃ q, rung y = q := ⟨_, rfl⟩
  have wm := wMul m
  rw [hq] at CB hle
  rw [ha] at CA CL
  clear sx ny hxw nx hyw iy ix hF wy hk hq m ha
  go_enter Try.func31, Try.ntmps31
  go_wp2_with fail
  refine (CA.out _).mono ?_
  rintro e w' ⟨rfl, rfl⟩
  go_wp2_with fail
  refine (CS.out _).mono ?_
  rintro e w' ⟨rfl, rfl⟩
  go_wp2_with fail
  refine (CO.out _).mono ?_
  rintro e w' ⟨rfl, rfl⟩
  go_wp2_with fail
  refine (CY.out _).mono ?_
  rintro e w' ⟨rfl, rfl⟩
  go_wp2_with fail
  refine (CX.out _).mono ?_
  rintro e w' ⟨rfl, rfl⟩
  go_wp2_with fail
  refine (CI.out _).mono ?_
  rintro e w' ⟨rfl, rfl⟩
  go_wp2_with fail
  refine (CJ.out _).mono ?_
  rintro e w' ⟨rfl, rfl⟩
  go_wp2_with fail
  refine (CT.out _).mono ?_
  rintro e w' ⟨rfl, rfl⟩
  go_wp2_with fail
  refine (CT.out _).mono ?_
  rintro e w' ⟨rfl, rfl⟩
  go_wp2_with fail
  refine (CB.out _).mono ?_
  rintro e w' ⟨rfl, rfl⟩
  go_wp2_with fail
  refine (CL.out _).mono ?_
  rintro e w' ⟨rfl, rfl⟩
  go_wp2_with fail
  refine (CE.out _).mono ?_
  rintro e w' ⟨rfl, rfl⟩
  go_wp2
  go_ret
  exact ⟨rfl, rfl⟩
set_option maxRecDepth 100000 in
set_option maxHeartbeats 1000000 in
theorem vPow_far_t_o (x y l t r : Nat) (w : World) (hxw : x < 18446744073709551616) (sx : fneg x = true) (CO : RowKit.Hid (∀ W : World, Calls Try.prog 64 #[.float .f64 y] W fun e w' => e = .returned (.bool true) ∧ W = w')) (ny : fnan y = false) (hy : (FloatKind.f64.format.order y 0 == some .eq) = false) (nx : fnan x = false) (hyw : y < 18446744073709551616) (iy : finf y = false) (ix : finf x = false) (zx : (FloatKind.f64.format.order x 0 == some .eq) = false) (hF : Fin64 y) (lx : (FloatKind.f64.format.order x 0 == some .lt) = true) (wy : whl y = true) (hle : ((FloatKind.f64.format.order (rung y) 4652218415073722368 == some .lt || FloatKind.f64.format.order (rung y) 4652218415073722368 == some .eq) = false)) (m : Ieee.double.mul y l = some t) (CL : RowKit.Hid (∀ W : World, Calls Try.prog 14 #[.float .f64 (rung x)] W fun e w' => e = .returned (.float .f64 l) ∧ W = w')) (CE : RowKit.Hid (∀ W : World, Calls Try.prog 12 #[.float .f64 t] W fun e w' => e = .returned (.float .f64 r) ∧ W = w')) : Calls Try.prog 31 #[.float .f64 x, .float .f64 y] w fun e w' => e = .returned (.float .f64 (Op.negFloat .f64 r)) ∧ w = w' := by
  have CA := Lib.hid (fun W => abs_any x W hxw)
  have CS := Lib.hid (fun W => signbit_any x W hxw)
  rw [sx] at CS
  obtain ⟨a, ha⟩ : ∃ a, rung x = a := ⟨_, rfl⟩
  have CY := Lib.hid (fun W => isNaN_any y W)
  rw [ny] at CY
  have CX := Lib.hid (fun W => isNaN_any x W)
  rw [nx] at CX
  have CI := Lib.hid (fun W => isInf0_any y W hyw)
  rw [iy] at CI
  have CJ := Lib.hid (fun W => isInf0_any x W hxw)
  rw [ix] at CJ
  have CT := Lib.hid (fun W => Trunc_real y W (fnan_of hF))
  have wz := (whl_zero hF).1
  obtain ⟨k, hk⟩ : ∃ k, itg .zero y = k := ⟨_, rfl⟩
  rw [hk] at CT wz
  rw [wy] at wz
  have wn : (FloatKind.f64.format.order k y != some .eq) = !true := by rw [← wz]; rfl
  have CB := Lib.hid (fun W => abs_any y W hyw)
  obtain ⟨q, hq⟩ : ∃ q, rung y = q := ⟨_, rfl⟩
  have wm := wMul m
  rw [hq] at CB hle
  rw [ha] at CA CL
  have CN : ∀ W : World, (Op.unary UnOp.neg (.float .f64 r)).run Try.prog W = .ok (.float .f64 (Op.negFloat .f64 r)) W := fun W => rfl
  obtain ⟨z, hz⟩ : ∃ z, Op.negFloat .f64 r = z := ⟨_, rfl⟩
  rw [hz] at CN ⊢
  clear sx ny hxw nx hyw iy ix hF wy hk hq m ha hz
  go_enter Try.func31, Try.ntmps31
  go_wp2_with fail
  refine (CA.out _).mono ?_
  rintro e w' ⟨rfl, rfl⟩
  go_wp2_with fail
  refine (CS.out _).mono ?_
  rintro e w' ⟨rfl, rfl⟩
  go_wp2_with fail
  refine (CO.out _).mono ?_
  rintro e w' ⟨rfl, rfl⟩
  go_wp2_with fail
  refine (CY.out _).mono ?_
  rintro e w' ⟨rfl, rfl⟩
  go_wp2_with fail
  refine (CX.out _).mono ?_
  rintro e w' ⟨rfl, rfl⟩
  go_wp2_with fail
  refine (CI.out _).mono ?_
  rintro e w' ⟨rfl, rfl⟩
  go_wp2_with fail
  refine (CJ.out _).mono ?_
  rintro e w' ⟨rfl, rfl⟩
  go_wp2_with fail
  refine (CT.out _).mono ?_
  rintro e w' ⟨rfl, rfl⟩
  go_wp2_with fail
  refine (CT.out _).mono ?_
  rintro e w' ⟨rfl, rfl⟩
  go_wp2_with fail
  refine (CB.out _).mono ?_
  rintro e w' ⟨rfl, rfl⟩
  go_wp2_with fail
  refine (CL.out _).mono ?_
  rintro e w' ⟨rfl, rfl⟩
  go_wp2_with fail
  refine (CE.out _).mono ?_
  rintro e w' ⟨rfl, rfl⟩
  go_wp2
  go_ret
  exact ⟨rfl, rfl⟩
set_option maxRecDepth 100000 in
set_option maxHeartbeats 1000000 in
theorem vPow_pow_f_p (x y r : Nat) (w : World) (hxw : x < 18446744073709551616) (sx : fneg x = false) (ny : fnan y = false) (hy : (FloatKind.f64.format.order y 0 == some .eq) = false) (nx : fnan x = false) (hyw : y < 18446744073709551616) (iy : finf y = false) (ix : finf x = false) (zx : (FloatKind.f64.format.order x 0 == some .eq) = false) (hF : Fin64 y) (lx : (FloatKind.f64.format.order x 0 == some .lt) = false) (wy : whl y = true) (hle : ((FloatKind.f64.format.order (rung y) 4652218415073722368 == some .lt || FloatKind.f64.format.order (rung y) 4652218415073722368 == some .eq) = true)) (CP : RowKit.Hid (∀ W : World, Calls Try.prog 66 #[.float .f64 (rung x), .float .f64 y] W fun e w' => e = .returned (.float .f64 r) ∧ W = w')) : Calls Try.prog 31 #[.float .f64 x, .float .f64 y] w fun e w' => e = .returned (.float .f64 r) ∧ w = w' := by
  have CA := Lib.hid (fun W => abs_any x W hxw)
  have CS := Lib.hid (fun W => signbit_any x W hxw)
  rw [sx] at CS
  obtain ⟨a, ha⟩ : ∃ a, rung x = a := ⟨_, rfl⟩
  have CY := Lib.hid (fun W => isNaN_any y W)
  rw [ny] at CY
  have CX := Lib.hid (fun W => isNaN_any x W)
  rw [nx] at CX
  have CI := Lib.hid (fun W => isInf0_any y W hyw)
  rw [iy] at CI
  have CJ := Lib.hid (fun W => isInf0_any x W hxw)
  rw [ix] at CJ
  have CT := Lib.hid (fun W => Trunc_real y W (fnan_of hF))
  have wz := (whl_zero hF).1
  obtain ⟨k, hk⟩ : ∃ k, itg .zero y = k := ⟨_, rfl⟩
  rw [hk] at CT wz
  rw [wy] at wz
  have CB := Lib.hid (fun W => abs_any y W hyw)
  obtain ⟨q, hq⟩ : ∃ q, rung y = q := ⟨_, rfl⟩
  rw [hq] at CB hle
  rw [ha] at CA CP
  clear sx ny hxw nx hyw iy ix hF wy hk hq ha
  go_enter Try.func31, Try.ntmps31
  go_wp2_with fail
  refine (CA.out _).mono ?_
  rintro e w' ⟨rfl, rfl⟩
  go_wp2_with fail
  refine (CS.out _).mono ?_
  rintro e w' ⟨rfl, rfl⟩
  go_wp2_with fail
  refine (CY.out _).mono ?_
  rintro e w' ⟨rfl, rfl⟩
  go_wp2_with fail
  refine (CX.out _).mono ?_
  rintro e w' ⟨rfl, rfl⟩
  go_wp2_with fail
  refine (CI.out _).mono ?_
  rintro e w' ⟨rfl, rfl⟩
  go_wp2_with fail
  refine (CJ.out _).mono ?_
  rintro e w' ⟨rfl, rfl⟩
  go_wp2_with fail
  refine (CT.out _).mono ?_
  rintro e w' ⟨rfl, rfl⟩
  go_wp2_with fail
  refine (CB.out _).mono ?_
  rintro e w' ⟨rfl, rfl⟩
  go_wp2_with fail
  refine (CP.out _).mono ?_
  rintro e w' ⟨rfl, rfl⟩
  go_wp2
  go_ret
  exact ⟨rfl, rfl⟩
set_option maxRecDepth 100000 in
set_option maxHeartbeats 1000000 in
theorem vPow_pow_f_e (x y r : Nat) (w : World) (hxw : x < 18446744073709551616) (sx : fneg x = true) (CO : RowKit.Hid (∀ W : World, Calls Try.prog 64 #[.float .f64 y] W fun e w' => e = .returned (.bool false) ∧ W = w')) (ny : fnan y = false) (hy : (FloatKind.f64.format.order y 0 == some .eq) = false) (nx : fnan x = false) (hyw : y < 18446744073709551616) (iy : finf y = false) (ix : finf x = false) (zx : (FloatKind.f64.format.order x 0 == some .eq) = false) (hF : Fin64 y) (lx : (FloatKind.f64.format.order x 0 == some .lt) = false) (wy : whl y = true) (hle : ((FloatKind.f64.format.order (rung y) 4652218415073722368 == some .lt || FloatKind.f64.format.order (rung y) 4652218415073722368 == some .eq) = true)) (CP : RowKit.Hid (∀ W : World, Calls Try.prog 66 #[.float .f64 (rung x), .float .f64 y] W fun e w' => e = .returned (.float .f64 r) ∧ W = w')) : Calls Try.prog 31 #[.float .f64 x, .float .f64 y] w fun e w' => e = .returned (.float .f64 r) ∧ w = w' := by
  have CA := Lib.hid (fun W => abs_any x W hxw)
  have CS := Lib.hid (fun W => signbit_any x W hxw)
  rw [sx] at CS
  obtain ⟨a, ha⟩ : ∃ a, rung x = a := ⟨_, rfl⟩
  have CY := Lib.hid (fun W => isNaN_any y W)
  rw [ny] at CY
  have CX := Lib.hid (fun W => isNaN_any x W)
  rw [nx] at CX
  have CI := Lib.hid (fun W => isInf0_any y W hyw)
  rw [iy] at CI
  have CJ := Lib.hid (fun W => isInf0_any x W hxw)
  rw [ix] at CJ
  have CT := Lib.hid (fun W => Trunc_real y W (fnan_of hF))
  have wz := (whl_zero hF).1
  obtain ⟨k, hk⟩ : ∃ k, itg .zero y = k := ⟨_, rfl⟩
  rw [hk] at CT wz
  rw [wy] at wz
  have CB := Lib.hid (fun W => abs_any y W hyw)
  obtain ⟨q, hq⟩ : ∃ q, rung y = q := ⟨_, rfl⟩
  rw [hq] at CB hle
  rw [ha] at CA CP
  clear sx ny hxw nx hyw iy ix hF wy hk hq ha
  go_enter Try.func31, Try.ntmps31
  go_wp2_with fail
  refine (CA.out _).mono ?_
  rintro e w' ⟨rfl, rfl⟩
  go_wp2_with fail
  refine (CS.out _).mono ?_
  rintro e w' ⟨rfl, rfl⟩
  go_wp2_with fail
  refine (CO.out _).mono ?_
  rintro e w' ⟨rfl, rfl⟩
  go_wp2_with fail
  refine (CY.out _).mono ?_
  rintro e w' ⟨rfl, rfl⟩
  go_wp2_with fail
  refine (CX.out _).mono ?_
  rintro e w' ⟨rfl, rfl⟩
  go_wp2_with fail
  refine (CI.out _).mono ?_
  rintro e w' ⟨rfl, rfl⟩
  go_wp2_with fail
  refine (CJ.out _).mono ?_
  rintro e w' ⟨rfl, rfl⟩
  go_wp2_with fail
  refine (CT.out _).mono ?_
  rintro e w' ⟨rfl, rfl⟩
  go_wp2_with fail
  refine (CB.out _).mono ?_
  rintro e w' ⟨rfl, rfl⟩
  go_wp2_with fail
  refine (CP.out _).mono ?_
  rintro e w' ⟨rfl, rfl⟩
  go_wp2
  go_ret
  exact ⟨rfl, rfl⟩
set_option maxRecDepth 100000 in
set_option maxHeartbeats 1000000 in
theorem vPow_pow_f_o (x y r : Nat) (w : World) (hxw : x < 18446744073709551616) (sx : fneg x = true) (CO : RowKit.Hid (∀ W : World, Calls Try.prog 64 #[.float .f64 y] W fun e w' => e = .returned (.bool true) ∧ W = w')) (ny : fnan y = false) (hy : (FloatKind.f64.format.order y 0 == some .eq) = false) (nx : fnan x = false) (hyw : y < 18446744073709551616) (iy : finf y = false) (ix : finf x = false) (zx : (FloatKind.f64.format.order x 0 == some .eq) = false) (hF : Fin64 y) (lx : (FloatKind.f64.format.order x 0 == some .lt) = false) (wy : whl y = true) (hle : ((FloatKind.f64.format.order (rung y) 4652218415073722368 == some .lt || FloatKind.f64.format.order (rung y) 4652218415073722368 == some .eq) = true)) (CP : RowKit.Hid (∀ W : World, Calls Try.prog 66 #[.float .f64 (rung x), .float .f64 y] W fun e w' => e = .returned (.float .f64 r) ∧ W = w')) : Calls Try.prog 31 #[.float .f64 x, .float .f64 y] w fun e w' => e = .returned (.float .f64 (Op.negFloat .f64 r)) ∧ w = w' := by
  have CA := Lib.hid (fun W => abs_any x W hxw)
  have CS := Lib.hid (fun W => signbit_any x W hxw)
  rw [sx] at CS
  obtain ⟨a, ha⟩ : ∃ a, rung x = a := ⟨_, rfl⟩
  have CY := Lib.hid (fun W => isNaN_any y W)
  rw [ny] at CY
  have CX := Lib.hid (fun W => isNaN_any x W)
  rw [nx] at CX
  have CI := Lib.hid (fun W => isInf0_any y W hyw)
  rw [iy] at CI
  have CJ := Lib.hid (fun W => isInf0_any x W hxw)
  rw [ix] at CJ
  have CT := Lib.hid (fun W => Trunc_real y W (fnan_of hF))
  have wz := (whl_zero hF).1
  obtain ⟨k, hk⟩ : ∃ k, itg .zero y = k := ⟨_, rfl⟩
  rw [hk] at CT wz
  rw [wy] at wz
  have CB := Lib.hid (fun W => abs_any y W hyw)
  obtain ⟨q, hq⟩ : ∃ q, rung y = q := ⟨_, rfl⟩
  rw [hq] at CB hle
  rw [ha] at CA CP
  have CN : ∀ W : World, (Op.unary UnOp.neg (.float .f64 r)).run Try.prog W = .ok (.float .f64 (Op.negFloat .f64 r)) W := fun W => rfl
  obtain ⟨z, hz⟩ : ∃ z, Op.negFloat .f64 r = z := ⟨_, rfl⟩
  rw [hz] at CN ⊢
  clear sx ny hxw nx hyw iy ix hF wy hk hq ha hz
  go_enter Try.func31, Try.ntmps31
  go_wp2_with fail
  refine (CA.out _).mono ?_
  rintro e w' ⟨rfl, rfl⟩
  go_wp2_with fail
  refine (CS.out _).mono ?_
  rintro e w' ⟨rfl, rfl⟩
  go_wp2_with fail
  refine (CO.out _).mono ?_
  rintro e w' ⟨rfl, rfl⟩
  go_wp2_with fail
  refine (CY.out _).mono ?_
  rintro e w' ⟨rfl, rfl⟩
  go_wp2_with fail
  refine (CX.out _).mono ?_
  rintro e w' ⟨rfl, rfl⟩
  go_wp2_with fail
  refine (CI.out _).mono ?_
  rintro e w' ⟨rfl, rfl⟩
  go_wp2_with fail
  refine (CJ.out _).mono ?_
  rintro e w' ⟨rfl, rfl⟩
  go_wp2_with fail
  refine (CT.out _).mono ?_
  rintro e w' ⟨rfl, rfl⟩
  go_wp2_with fail
  refine (CB.out _).mono ?_
  rintro e w' ⟨rfl, rfl⟩
  go_wp2_with fail
  refine (CP.out _).mono ?_
  rintro e w' ⟨rfl, rfl⟩
  go_wp2
  go_ret
  exact ⟨rfl, rfl⟩
set_option maxRecDepth 100000 in
set_option maxHeartbeats 1000000 in
theorem vPow_far_f_p (x y l t r : Nat) (w : World) (hxw : x < 18446744073709551616) (sx : fneg x = false) (ny : fnan y = false) (hy : (FloatKind.f64.format.order y 0 == some .eq) = false) (nx : fnan x = false) (hyw : y < 18446744073709551616) (iy : finf y = false) (ix : finf x = false) (zx : (FloatKind.f64.format.order x 0 == some .eq) = false) (hF : Fin64 y) (lx : (FloatKind.f64.format.order x 0 == some .lt) = false) (wy : whl y = true) (hle : ((FloatKind.f64.format.order (rung y) 4652218415073722368 == some .lt || FloatKind.f64.format.order (rung y) 4652218415073722368 == some .eq) = false)) (m : Ieee.double.mul y l = some t) (CL : RowKit.Hid (∀ W : World, Calls Try.prog 14 #[.float .f64 (rung x)] W fun e w' => e = .returned (.float .f64 l) ∧ W = w')) (CE : RowKit.Hid (∀ W : World, Calls Try.prog 12 #[.float .f64 t] W fun e w' => e = .returned (.float .f64 r) ∧ W = w')) : Calls Try.prog 31 #[.float .f64 x, .float .f64 y] w fun e w' => e = .returned (.float .f64 r) ∧ w = w' := by
  have CA := Lib.hid (fun W => abs_any x W hxw)
  have CS := Lib.hid (fun W => signbit_any x W hxw)
  rw [sx] at CS
  obtain ⟨a, ha⟩ : ∃ a, rung x = a := ⟨_, rfl⟩
  have CY := Lib.hid (fun W => isNaN_any y W)
  rw [ny] at CY
  have CX := Lib.hid (fun W => isNaN_any x W)
  rw [nx] at CX
  have CI := Lib.hid (fun W => isInf0_any y W hyw)
  rw [iy] at CI
  have CJ := Lib.hid (fun W => isInf0_any x W hxw)
  rw [ix] at CJ
  have CT := Lib.hid (fun W => Trunc_real y W (fnan_of hF))
  have wz := (whl_zero hF).1
  obtain ⟨k, hk⟩ : ∃ k, itg .zero y = k := ⟨_, rfl⟩
  rw [hk] at CT wz
  rw [wy] at wz
  have CB := Lib.hid (fun W => abs_any y W hyw)
  obtain ⟨q, hq⟩ : ∃ q, rung y = q := ⟨_, rfl⟩
  have wm := wMul m
  rw [hq] at CB hle
  rw [ha] at CA CL
  clear sx ny hxw nx hyw iy ix hF wy hk hq m ha
  go_enter Try.func31, Try.ntmps31
  go_wp2_with fail
  refine (CA.out _).mono ?_
  rintro e w' ⟨rfl, rfl⟩
  go_wp2_with fail
  refine (CS.out _).mono ?_
  rintro e w' ⟨rfl, rfl⟩
  go_wp2_with fail
  refine (CY.out _).mono ?_
  rintro e w' ⟨rfl, rfl⟩
  go_wp2_with fail
  refine (CX.out _).mono ?_
  rintro e w' ⟨rfl, rfl⟩
  go_wp2_with fail
  refine (CI.out _).mono ?_
  rintro e w' ⟨rfl, rfl⟩
  go_wp2_with fail
  refine (CJ.out _).mono ?_
  rintro e w' ⟨rfl, rfl⟩
  go_wp2_with fail
  refine (CT.out _).mono ?_
  rintro e w' ⟨rfl, rfl⟩
  go_wp2_with fail
  refine (CB.out _).mono ?_
  rintro e w' ⟨rfl, rfl⟩
  go_wp2_with fail
  refine (CL.out _).mono ?_
  rintro e w' ⟨rfl, rfl⟩
  go_wp2_with fail
  refine (CE.out _).mono ?_
  rintro e w' ⟨rfl, rfl⟩
  go_wp2
  go_ret
  exact ⟨rfl, rfl⟩
set_option maxRecDepth 100000 in
set_option maxHeartbeats 1000000 in
theorem vPow_far_f_e (x y l t r : Nat) (w : World) (hxw : x < 18446744073709551616) (sx : fneg x = true) (CO : RowKit.Hid (∀ W : World, Calls Try.prog 64 #[.float .f64 y] W fun e w' => e = .returned (.bool false) ∧ W = w')) (ny : fnan y = false) (hy : (FloatKind.f64.format.order y 0 == some .eq) = false) (nx : fnan x = false) (hyw : y < 18446744073709551616) (iy : finf y = false) (ix : finf x = false) (zx : (FloatKind.f64.format.order x 0 == some .eq) = false) (hF : Fin64 y) (lx : (FloatKind.f64.format.order x 0 == some .lt) = false) (wy : whl y = true) (hle : ((FloatKind.f64.format.order (rung y) 4652218415073722368 == some .lt || FloatKind.f64.format.order (rung y) 4652218415073722368 == some .eq) = false)) (m : Ieee.double.mul y l = some t) (CL : RowKit.Hid (∀ W : World, Calls Try.prog 14 #[.float .f64 (rung x)] W fun e w' => e = .returned (.float .f64 l) ∧ W = w')) (CE : RowKit.Hid (∀ W : World, Calls Try.prog 12 #[.float .f64 t] W fun e w' => e = .returned (.float .f64 r) ∧ W = w')) : Calls Try.prog 31 #[.float .f64 x, .float .f64 y] w fun e w' => e = .returned (.float .f64 r) ∧ w = w' := by
  have CA := Lib.hid (fun W => abs_any x W hxw)
  have CS := Lib.hid (fun W => signbit_any x W hxw)
  rw [sx] at CS
  obtain ⟨a, ha⟩ : ∃ a, rung x = a := ⟨_, rfl⟩
  have CY := Lib.hid (fun W => isNaN_any y W)
  rw [ny] at CY
  have CX := Lib.hid (fun W => isNaN_any x W)
  rw [nx] at CX
  have CI := Lib.hid (fun W => isInf0_any y W hyw)
  rw [iy] at CI
  have CJ := Lib.hid (fun W => isInf0_any x W hxw)
  rw [ix] at CJ
  have CT := Lib.hid (fun W => Trunc_real y W (fnan_of hF))
  have wz := (whl_zero hF).1
  obtain ⟨k, hk⟩ : ∃ k, itg .zero y = k := ⟨_, rfl⟩
  rw [hk] at CT wz
  rw [wy] at wz
  have CB := Lib.hid (fun W => abs_any y W hyw)
  obtain ⟨q, hq⟩ : ∃ q, rung y = q := ⟨_, rfl⟩
  have wm := wMul m
  rw [hq] at CB hle
  rw [ha] at CA CL
  clear sx ny hxw nx hyw iy ix hF wy hk hq m ha
  go_enter Try.func31, Try.ntmps31
  go_wp2_with fail
  refine (CA.out _).mono ?_
  rintro e w' ⟨rfl, rfl⟩
  go_wp2_with fail
  refine (CS.out _).mono ?_
  rintro e w' ⟨rfl, rfl⟩
  go_wp2_with fail
  refine (CO.out _).mono ?_
  rintro e w' ⟨rfl, rfl⟩
  go_wp2_with fail
  refine (CY.out _).mono ?_
  rintro e w' ⟨rfl, rfl⟩
  go_wp2_with fail
  refine (CX.out _).mono ?_
  rintro e w' ⟨rfl, rfl⟩
  go_wp2_with fail
  refine (CI.out _).mono ?_
  rintro e w' ⟨rfl, rfl⟩
  go_wp2_with fail
  refine (CJ.out _).mono ?_
  rintro e w' ⟨rfl, rfl⟩
  go_wp2_with fail
  refine (CT.out _).mono ?_
  rintro e w' ⟨rfl, rfl⟩
  go_wp2_with fail
  refine (CB.out _).mono ?_
  rintro e w' ⟨rfl, rfl⟩
  go_wp2_with fail
  refine (CL.out _).mono ?_
  rintro e w' ⟨rfl, rfl⟩
  go_wp2_with fail
  refine (CE.out _).mono ?_
  rintro e w' ⟨rfl, rfl⟩
  go_wp2
  go_ret
  exact ⟨rfl, rfl⟩
set_option maxRecDepth 100000 in
set_option maxHeartbeats 1000000 in
theorem vPow_far_f_o (x y l t r : Nat) (w : World) (hxw : x < 18446744073709551616) (sx : fneg x = true) (CO : RowKit.Hid (∀ W : World, Calls Try.prog 64 #[.float .f64 y] W fun e w' => e = .returned (.bool true) ∧ W = w')) (ny : fnan y = false) (hy : (FloatKind.f64.format.order y 0 == some .eq) = false) (nx : fnan x = false) (hyw : y < 18446744073709551616) (iy : finf y = false) (ix : finf x = false) (zx : (FloatKind.f64.format.order x 0 == some .eq) = false) (hF : Fin64 y) (lx : (FloatKind.f64.format.order x 0 == some .lt) = false) (wy : whl y = true) (hle : ((FloatKind.f64.format.order (rung y) 4652218415073722368 == some .lt || FloatKind.f64.format.order (rung y) 4652218415073722368 == some .eq) = false)) (m : Ieee.double.mul y l = some t) (CL : RowKit.Hid (∀ W : World, Calls Try.prog 14 #[.float .f64 (rung x)] W fun e w' => e = .returned (.float .f64 l) ∧ W = w')) (CE : RowKit.Hid (∀ W : World, Calls Try.prog 12 #[.float .f64 t] W fun e w' => e = .returned (.float .f64 r) ∧ W = w')) : Calls Try.prog 31 #[.float .f64 x, .float .f64 y] w fun e w' => e = .returned (.float .f64 (Op.negFloat .f64 r)) ∧ w = w' := by
  have CA := Lib.hid (fun W => abs_any x W hxw)
  have CS := Lib.hid (fun W => signbit_any x W hxw)
  rw [sx] at CS
  obtain ⟨a, ha⟩ : ∃ a, rung x = a := ⟨_, rfl⟩
  have CY := Lib.hid (fun W => isNaN_any y W)
  rw [ny] at CY
  have CX := Lib.hid (fun W => isNaN_any x W)
  rw [nx] at CX
  have CI := Lib.hid (fun W => isInf0_any y W hyw)
  rw [iy] at CI
  have CJ := Lib.hid (fun W => isInf0_any x W hxw)
  rw [ix] at CJ
  have CT := Lib.hid (fun W => Trunc_real y W (fnan_of hF))
  have wz := (whl_zero hF).1
  obtain ⟨k, hk⟩ : ∃ k, itg .zero y = k := ⟨_, rfl⟩
  rw [hk] at CT wz
  rw [wy] at wz
  have CB := Lib.hid (fun W => abs_any y W hyw)
  obtain ⟨q, hq⟩ : ∃ q, rung y = q := ⟨_, rfl⟩
  have wm := wMul m
  rw [hq] at CB hle
  rw [ha] at CA CL
  have CN : ∀ W : World, (Op.unary UnOp.neg (.float .f64 r)).run Try.prog W = .ok (.float .f64 (Op.negFloat .f64 r)) W := fun W => rfl
  obtain ⟨z, hz⟩ : ∃ z, Op.negFloat .f64 r = z := ⟨_, rfl⟩
  rw [hz] at CN ⊢
  clear sx ny hxw nx hyw iy ix hF wy hk hq m ha hz
  go_enter Try.func31, Try.ntmps31
  go_wp2_with fail
  refine (CA.out _).mono ?_
  rintro e w' ⟨rfl, rfl⟩
  go_wp2_with fail
  refine (CS.out _).mono ?_
  rintro e w' ⟨rfl, rfl⟩
  go_wp2_with fail
  refine (CO.out _).mono ?_
  rintro e w' ⟨rfl, rfl⟩
  go_wp2_with fail
  refine (CY.out _).mono ?_
  rintro e w' ⟨rfl, rfl⟩
  go_wp2_with fail
  refine (CX.out _).mono ?_
  rintro e w' ⟨rfl, rfl⟩
  go_wp2_with fail
  refine (CI.out _).mono ?_
  rintro e w' ⟨rfl, rfl⟩
  go_wp2_with fail
  refine (CJ.out _).mono ?_
  rintro e w' ⟨rfl, rfl⟩
  go_wp2_with fail
  refine (CT.out _).mono ?_
  rintro e w' ⟨rfl, rfl⟩
  go_wp2_with fail
  refine (CB.out _).mono ?_
  rintro e w' ⟨rfl, rfl⟩
  go_wp2_with fail
  refine (CL.out _).mono ?_
  rintro e w' ⟨rfl, rfl⟩
  go_wp2_with fail
  refine (CE.out _).mono ?_
  rintro e w' ⟨rfl, rfl⟩
  go_wp2
  go_ret
  exact ⟨rfl, rfl⟩
set_option maxRecDepth 100000 in
set_option maxHeartbeats 1000000 in
theorem vPow_frac_p (x y l t r : Nat) (w : World) (hxw : x < 18446744073709551616) (sx : fneg x = false) (ny : fnan y = false) (hy : (FloatKind.f64.format.order y 0 == some .eq) = false) (nx : fnan x = false) (hyw : y < 18446744073709551616) (iy : finf y = false) (ix : finf x = false) (zx : (FloatKind.f64.format.order x 0 == some .eq) = false) (hF : Fin64 y) (lx : (FloatKind.f64.format.order x 0 == some .lt) = false) (wy : whl y = false) (m : Ieee.double.mul y l = some t) (CL : RowKit.Hid (∀ W : World, Calls Try.prog 14 #[.float .f64 (rung x)] W fun e w' => e = .returned (.float .f64 l) ∧ W = w')) (CE : RowKit.Hid (∀ W : World, Calls Try.prog 12 #[.float .f64 t] W fun e w' => e = .returned (.float .f64 r) ∧ W = w')) : Calls Try.prog 31 #[.float .f64 x, .float .f64 y] w fun e w' => e = .returned (.float .f64 r) ∧ w = w' := by
  have CA := Lib.hid (fun W => abs_any x W hxw)
  have CS := Lib.hid (fun W => signbit_any x W hxw)
  rw [sx] at CS
  obtain ⟨a, ha⟩ : ∃ a, rung x = a := ⟨_, rfl⟩
  have CY := Lib.hid (fun W => isNaN_any y W)
  rw [ny] at CY
  have CX := Lib.hid (fun W => isNaN_any x W)
  rw [nx] at CX
  have CI := Lib.hid (fun W => isInf0_any y W hyw)
  rw [iy] at CI
  have CJ := Lib.hid (fun W => isInf0_any x W hxw)
  rw [ix] at CJ
  have CT := Lib.hid (fun W => Trunc_real y W (fnan_of hF))
  have wz := (whl_zero hF).1
  obtain ⟨k, hk⟩ : ∃ k, itg .zero y = k := ⟨_, rfl⟩
  rw [hk] at CT wz
  rw [wy] at wz
  have wm := wMul m
  rw [ha] at CA CL
  clear sx ny hxw nx hyw iy ix hF wy hk m ha
  go_enter Try.func31, Try.ntmps31
  go_wp2_with fail
  refine (CA.out _).mono ?_
  rintro e w' ⟨rfl, rfl⟩
  go_wp2_with fail
  refine (CS.out _).mono ?_
  rintro e w' ⟨rfl, rfl⟩
  go_wp2_with fail
  refine (CY.out _).mono ?_
  rintro e w' ⟨rfl, rfl⟩
  go_wp2_with fail
  refine (CX.out _).mono ?_
  rintro e w' ⟨rfl, rfl⟩
  go_wp2_with fail
  refine (CI.out _).mono ?_
  rintro e w' ⟨rfl, rfl⟩
  go_wp2_with fail
  refine (CJ.out _).mono ?_
  rintro e w' ⟨rfl, rfl⟩
  go_wp2_with fail
  refine (CT.out _).mono ?_
  rintro e w' ⟨rfl, rfl⟩
  go_wp2_with fail
  refine (CL.out _).mono ?_
  rintro e w' ⟨rfl, rfl⟩
  go_wp2_with fail
  refine (CE.out _).mono ?_
  rintro e w' ⟨rfl, rfl⟩
  go_wp2
  go_ret
  exact ⟨rfl, rfl⟩
set_option maxRecDepth 100000 in
set_option maxHeartbeats 1000000 in
theorem vPow_frac_e (x y l t r : Nat) (w : World) (hxw : x < 18446744073709551616) (sx : fneg x = true) (CO : RowKit.Hid (∀ W : World, Calls Try.prog 64 #[.float .f64 y] W fun e w' => e = .returned (.bool false) ∧ W = w')) (ny : fnan y = false) (hy : (FloatKind.f64.format.order y 0 == some .eq) = false) (nx : fnan x = false) (hyw : y < 18446744073709551616) (iy : finf y = false) (ix : finf x = false) (zx : (FloatKind.f64.format.order x 0 == some .eq) = false) (hF : Fin64 y) (lx : (FloatKind.f64.format.order x 0 == some .lt) = false) (wy : whl y = false) (m : Ieee.double.mul y l = some t) (CL : RowKit.Hid (∀ W : World, Calls Try.prog 14 #[.float .f64 (rung x)] W fun e w' => e = .returned (.float .f64 l) ∧ W = w')) (CE : RowKit.Hid (∀ W : World, Calls Try.prog 12 #[.float .f64 t] W fun e w' => e = .returned (.float .f64 r) ∧ W = w')) : Calls Try.prog 31 #[.float .f64 x, .float .f64 y] w fun e w' => e = .returned (.float .f64 r) ∧ w = w' := by
  have CA := Lib.hid (fun W => abs_any x W hxw)
  have CS := Lib.hid (fun W => signbit_any x W hxw)
  rw [sx] at CS
  obtain ⟨a, ha⟩ : ∃ a, rung x = a := ⟨_, rfl⟩
  have CY := Lib.hid (fun W => isNaN_any y W)
  rw [ny] at CY
  have CX := Lib.hid (fun W => isNaN_any x W)
  rw [nx] at CX
  have CI := Lib.hid (fun W => isInf0_any y W hyw)
  rw [iy] at CI
  have CJ := Lib.hid (fun W => isInf0_any x W hxw)
  rw [ix] at CJ
  have CT := Lib.hid (fun W => Trunc_real y W (fnan_of hF))
  have wz := (whl_zero hF).1
  obtain ⟨k, hk⟩ : ∃ k, itg .zero y = k := ⟨_, rfl⟩
  rw [hk] at CT wz
  rw [wy] at wz
  have wm := wMul m
  rw [ha] at CA CL
  clear sx ny hxw nx hyw iy ix hF wy hk m ha
  go_enter Try.func31, Try.ntmps31
  go_wp2_with fail
  refine (CA.out _).mono ?_
  rintro e w' ⟨rfl, rfl⟩
  go_wp2_with fail
  refine (CS.out _).mono ?_
  rintro e w' ⟨rfl, rfl⟩
  go_wp2_with fail
  refine (CO.out _).mono ?_
  rintro e w' ⟨rfl, rfl⟩
  go_wp2_with fail
  refine (CY.out _).mono ?_
  rintro e w' ⟨rfl, rfl⟩
  go_wp2_with fail
  refine (CX.out _).mono ?_
  rintro e w' ⟨rfl, rfl⟩
  go_wp2_with fail
  refine (CI.out _).mono ?_
  rintro e w' ⟨rfl, rfl⟩
  go_wp2_with fail
  refine (CJ.out _).mono ?_
  rintro e w' ⟨rfl, rfl⟩
  go_wp2_with fail
  refine (CT.out _).mono ?_
  rintro e w' ⟨rfl, rfl⟩
  go_wp2_with fail
  refine (CL.out _).mono ?_
  rintro e w' ⟨rfl, rfl⟩
  go_wp2_with fail
  refine (CE.out _).mono ?_
  rintro e w' ⟨rfl, rfl⟩
  go_wp2
  go_ret
  exact ⟨rfl, rfl⟩
set_option maxRecDepth 100000 in
set_option maxHeartbeats 1000000 in
theorem vPow_frac_o (x y l t r : Nat) (w : World) (hxw : x < 18446744073709551616) (sx : fneg x = true) (CO : RowKit.Hid (∀ W : World, Calls Try.prog 64 #[.float .f64 y] W fun e w' => e = .returned (.bool true) ∧ W = w')) (ny : fnan y = false) (hy : (FloatKind.f64.format.order y 0 == some .eq) = false) (nx : fnan x = false) (hyw : y < 18446744073709551616) (iy : finf y = false) (ix : finf x = false) (zx : (FloatKind.f64.format.order x 0 == some .eq) = false) (hF : Fin64 y) (lx : (FloatKind.f64.format.order x 0 == some .lt) = false) (wy : whl y = false) (m : Ieee.double.mul y l = some t) (CL : RowKit.Hid (∀ W : World, Calls Try.prog 14 #[.float .f64 (rung x)] W fun e w' => e = .returned (.float .f64 l) ∧ W = w')) (CE : RowKit.Hid (∀ W : World, Calls Try.prog 12 #[.float .f64 t] W fun e w' => e = .returned (.float .f64 r) ∧ W = w')) : Calls Try.prog 31 #[.float .f64 x, .float .f64 y] w fun e w' => e = .returned (.float .f64 (Op.negFloat .f64 r)) ∧ w = w' := by
  have CA := Lib.hid (fun W => abs_any x W hxw)
  have CS := Lib.hid (fun W => signbit_any x W hxw)
  rw [sx] at CS
  obtain ⟨a, ha⟩ : ∃ a, rung x = a := ⟨_, rfl⟩
  have CY := Lib.hid (fun W => isNaN_any y W)
  rw [ny] at CY
  have CX := Lib.hid (fun W => isNaN_any x W)
  rw [nx] at CX
  have CI := Lib.hid (fun W => isInf0_any y W hyw)
  rw [iy] at CI
  have CJ := Lib.hid (fun W => isInf0_any x W hxw)
  rw [ix] at CJ
  have CT := Lib.hid (fun W => Trunc_real y W (fnan_of hF))
  have wz := (whl_zero hF).1
  obtain ⟨k, hk⟩ : ∃ k, itg .zero y = k := ⟨_, rfl⟩
  rw [hk] at CT wz
  rw [wy] at wz
  have wm := wMul m
  rw [ha] at CA CL
  have CN : ∀ W : World, (Op.unary UnOp.neg (.float .f64 r)).run Try.prog W = .ok (.float .f64 (Op.negFloat .f64 r)) W := fun W => rfl
  obtain ⟨z, hz⟩ : ∃ z, Op.negFloat .f64 r = z := ⟨_, rfl⟩
  rw [hz] at CN ⊢
  clear sx ny hxw nx hyw iy ix hF wy hk m ha hz
  go_enter Try.func31, Try.ntmps31
  go_wp2_with fail
  refine (CA.out _).mono ?_
  rintro e w' ⟨rfl, rfl⟩
  go_wp2_with fail
  refine (CS.out _).mono ?_
  rintro e w' ⟨rfl, rfl⟩
  go_wp2_with fail
  refine (CO.out _).mono ?_
  rintro e w' ⟨rfl, rfl⟩
  go_wp2_with fail
  refine (CY.out _).mono ?_
  rintro e w' ⟨rfl, rfl⟩
  go_wp2_with fail
  refine (CX.out _).mono ?_
  rintro e w' ⟨rfl, rfl⟩
  go_wp2_with fail
  refine (CI.out _).mono ?_
  rintro e w' ⟨rfl, rfl⟩
  go_wp2_with fail
  refine (CJ.out _).mono ?_
  rintro e w' ⟨rfl, rfl⟩
  go_wp2_with fail
  refine (CT.out _).mono ?_
  rintro e w' ⟨rfl, rfl⟩
  go_wp2_with fail
  refine (CL.out _).mono ?_
  rintro e w' ⟨rfl, rfl⟩
  go_wp2_with fail
  refine (CE.out _).mono ?_
  rintro e w' ⟨rfl, rfl⟩
  go_wp2
  go_ret
  exact ⟨rfl, rfl⟩
end Go.Proofs.Ytbinpcoaghpcdaa
