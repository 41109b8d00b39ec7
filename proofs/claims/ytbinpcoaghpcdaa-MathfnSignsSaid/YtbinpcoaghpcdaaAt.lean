/-
  Atan of the program and of the reference.
-/
import Derived.Test.YtbinpcoaghpcdaaLa
namespace Go.Proofs.Ytbinpcoaghpcdaa
open Go.RowKit
/-- The sum of Atan, term by term. -/
def tS (z : Nat) : Nat → Nat
  | 0 => 0
  | j + 1 => subF (divF 4607182418800017408 (floatOfInt .f64 (39 - 2 * (j : Int)))) (mulF z (tS z j))
def far1 (a : Nat) : Bool := FloatKind.f64.format.order a 4612618744449965542 == some .gt
def far2 (a : Nat) : Bool := FloatKind.f64.format.order a 4601133428098527026 == some .gt
def atB (a : Nat) : Nat := if far1 a = true then 4609753056924675352 else if far2 a = true then 4605249457297304856 else 0
def atY (a : Nat) : Nat := if far1 a = true then divF 13830554455654793216 a else if far2 a = true then divF (subF a 4607182418800017408) (addF a 4607182418800017408) else a
/-- What Atan tells of an amount, up to its sign. -/
def atV (a : Nat) : Nat := addF (atB a) (mulF (atY a) (tS (mulF (atY a) (atY a)) 20))
structure AtQ (a : Nat) : Prop where
  y1 : far1 a = true → Ieee.double.div 13830554455654793216 a = some (atY a)
  y2 : far1 a = false → far2 a = true → Ieee.double.sub a 4607182418800017408 = some (subF a 4607182418800017408) ∧ Ieee.double.add a 4607182418800017408 = some (addF a 4607182418800017408) ∧ Ieee.double.div (subF a 4607182418800017408) (addF a 4607182418800017408) = some (atY a)
  m1 : Ieee.double.mul (atY a) (atY a) = some (mulF (atY a) (atY a))
  hl : ∀ j : Nat, j < 20 → ∃ q f, Ieee.double.div 4607182418800017408 (floatOfInt .f64 (39 - 2 * (j : Int))) = some q ∧ Ieee.double.mul (mulF (atY a) (atY a)) (tS (mulF (atY a) (atY a)) j) = some f ∧ Ieee.double.sub q f = some (tS (mulF (atY a) (atY a)) (j + 1))
  m2 : Ieee.double.mul (atY a) (tS (mulF (atY a) (atY a)) 20) = some (mulF (atY a) (tS (mulF (atY a) (atY a)) 20))
  m3 : Ieee.double.add (atB a) (mulF (atY a) (tS (mulF (atY a) (atY a)) 20)) = some (atV a)
  lt : atV a < 18446744073709551616
set_option maxRecDepth 100000 in
theorem fnearer_1 (a : Nat) (w : World) (Q : AtQ a) (h1 : far1 a = true) : Calls Try.prog 50 #[.float .f64 a] w fun e w' => e = .returned (.tuple #[.float .f64 4609753056924675352, .float .f64 (atY a)]) ∧ w = w' := by
  have CC := Lib.hid (fun c W => const_any c W)
  have y := Q.y1 h1
  have wy := wDiv y
  have k1 : (FloatKind.f64.format.order a 4612618744449965542 == some .gt) = true := h1
  obtain ⟨Y, hY⟩ : ∃ Y, atY a = Y := ⟨_, rfl⟩
  rw [hY] at y ⊢
  rw [hY] at wy
  clear Q y hY h1
  go_enter Try.func50, Try.ntmps50
  go_wp2_with fail
  refine (CC.out _ _).mono ?_
  rintro e w' ⟨rfl, rfl⟩
  go_wp2
  go_ret2
  exact ⟨rfl, rfl⟩
set_option maxRecDepth 100000 in
theorem fnearer_2 (a : Nat) (w : World) (Q : AtQ a) (h1 : far1 a = false) (h2 : far2 a = true) : Calls Try.prog 50 #[.float .f64 a] w fun e w' => e = .returned (.tuple #[.float .f64 4605249457297304856, .float .f64 (atY a)]) ∧ w = w' := by
  have CC := Lib.hid (fun c W => const_any c W)
  obtain ⟨ya, yb, yc⟩ := Q.y2 h1 h2
  obtain ⟨A, hA⟩ : ∃ A, subF a 4607182418800017408 = A := ⟨_, rfl⟩
  obtain ⟨B, hB⟩ : ∃ B, addF a 4607182418800017408 = B := ⟨_, rfl⟩
  rw [hA] at ya yc
  rw [hB] at yb yc
  have wa := wSub ya
  have wb := wAdd yb
  have wc := wDiv yc
  have k1 : (FloatKind.f64.format.order a 4612618744449965542 == some .gt) = false := h1
  have k2 : (FloatKind.f64.format.order a 4601133428098527026 == some .gt) = true := h2
  obtain ⟨Y, hY⟩ : ∃ Y, atY a = Y := ⟨_, rfl⟩
  rw [hY] at yc wc ⊢
  clear Q ya yb yc hA hB hY h1 h2
  go_enter Try.func50, Try.ntmps50
  go_wp2_with fail
  refine (CC.out _ _).mono ?_
  rintro e w' ⟨rfl, rfl⟩
  go_wp2
  go_ret2
  exact ⟨rfl, rfl⟩
set_option maxRecDepth 100000 in
theorem fnearer_3 (a : Nat) (w : World) (h1 : far1 a = false) (h2 : far2 a = false) : Calls Try.prog 50 #[.float .f64 a] w fun e w' => e = .returned (.tuple #[.float .f64 0, .float .f64 a]) ∧ w = w' := by
  have CC := Lib.hid (fun c W => const_any c W)
  have k1 : (FloatKind.f64.format.order a 4612618744449965542 == some .gt) = false := h1
  have k2 : (FloatKind.f64.format.order a 4601133428098527026 == some .gt) = false := h2
  clear h1 h2
  go_enter Try.func50, Try.ntmps50
  go_wp2
  go_ret2
  exact ⟨rfl, rfl⟩
theorem nearer_any (a : Nat) (Q : AtQ a) (w : World) : Calls Try.prog 50 #[.float .f64 a] w fun e w' => e = .returned (.tuple #[.float .f64 (atB a), .float .f64 (atY a)]) ∧ w = w' := by
  cases h1 : far1 a
  · cases h2 : far2 a
    · rw [show atB a = 0 from by unfold atB; rw [h1, h2]; rfl, show atY a = a from by unfold atY; rw [h1, h2]; rfl]
      exact fnearer_3 a w h1 h2
    · rw [show atB a = 4605249457297304856 from by unfold atB; rw [h1, h2]; rfl]
      exact fnearer_2 a w Q h1 h2
  · rw [show atB a = 4609753056924675352 from by unfold atB; rw [h1]; rfl]
    exact fnearer_1 a w Q h1
theorem vpi_any (w : World) : Calls Try.prog 59 #[] w fun e w' => e = .returned (.float .f64 4614256656552045848) ∧ w = w' := by
  have C := Lib.hid (of_any 4614256656552045848 w)
  go_enter Try.func59, Try.ntmps59
  go_wp2_with fail
  refine C.out.mono ?_
  rintro e w' ⟨rfl, rfl⟩
  go_wp2
  go_ret
  exact ⟨rfl, rfl⟩
theorem vpi2_any (w : World) : Calls Try.prog 53 #[] w fun e w' => e = .returned (.float .f64 4609753056924675352) ∧ w = w' := by
  have C := Lib.hid (of_any 4609753056924675352 w)
  go_enter Try.func53, Try.ntmps53
  go_wp2_with fail
  refine C.out.mono ?_
  rintro e w' ⟨rfl, rfl⟩
  go_wp2
  go_ret
  exact ⟨rfl, rfl⟩
theorem vpi4_any (w : World) : Calls Try.prog 54 #[] w fun e w' => e = .returned (.float .f64 4605249457297304856) ∧ w = w' := by
  have C := Lib.hid (of_any 4605249457297304856 w)
  go_enter Try.func54, Try.ntmps54
  go_wp2_with fail
  refine C.out.mono ?_
  rintro e w' ⟨rfl, rfl⟩
  go_wp2
  go_ret
  exact ⟨rfl, rfl⟩
set_option maxRecDepth 100000 in
set_option maxHeartbeats 1000000 in
theorem fAtan_main (x : Nat) (w : World) (hx : x < 18446744073709551616) (nx : fnan x = false) (h0 : (FloatKind.f64.format.order x 0 == some .eq) = false) (Q : AtQ (rung x))  : Calls Try.prog 22 #[.float .f64 x] w fun e w' => e = .returned (.float .f64 (Ieee.double.word (fneg x) (rung (atV (rung x))))) ∧ w = w' := by
  have CX := Lib.hid (fun W => isNaN_any x W)
  rw [nx] at CX
  have CS := Lib.hid (fun W => copysign_any (atV (rung x)) x W Q.lt hx)
  obtain ⟨R, hR⟩ : ∃ R, Ieee.double.word (fneg x) (rung (atV (rung x))) = R := ⟨_, rfl⟩
  rw [hR] at CS ⊢
  have CA := Lib.hid (fun W => nabs_any x W hx nx)
  have CN := Lib.hid (fun W => nearer_any (rung x) Q W)
  obtain ⟨a, ha⟩ : ∃ a, rung x = a := ⟨_, rfl⟩
  rw [ha] at CA CS Q CN
  obtain ⟨y1, y2, m1, hl, m2, m3, _⟩ := Q
  obtain ⟨V, hV⟩ : ∃ V, atV a = V := ⟨_, rfl⟩
  rw [hV] at CS m3
  obtain ⟨Y, hY⟩ : ∃ Y, atY a = Y := ⟨_, rfl⟩
  rw [hY] at m1 hl m2 m3 CN
  obtain ⟨b, hb⟩ : ∃ b, atB a = b := ⟨_, rfl⟩
  rw [hb] at CN m3
  obtain ⟨z, hz⟩ : ∃ z, mulF Y Y = z := ⟨_, rfl⟩
  rw [hz] at m1 hl m2 m3
  obtain ⟨p, hp⟩ : ∃ p, tS z 20 = p := ⟨_, rfl⟩
  rw [hp] at m2 m3
  obtain ⟨T, hT⟩ : ∃ T, mulF Y p = T := ⟨_, rfl⟩
  rw [hT] at m2 m3
  have HL := Lib.hid hl
  have HP := Lib.hid hp
  have w3 := wAdd m3
  have x1 := Lib.hid (fun W => times_any m1 W)
  have x2 := Lib.hid (fun W => times_any m2 W)
  clear hx nx hR ha y1 y2 m1 hl m2 m3 hV hz hp hT hY hb
  go_enter Try.func22, Try.ntmps22
  go_wp2_with fail
  refine (CX.out _).mono ?_
  rintro e w' ⟨rfl, rfl⟩
  go_wp2_with fail
  refine (CA.out _).mono ?_
  rintro e w' ⟨rfl, rfl⟩
  go_wp2_with fail
  refine (CN.out _).mono ?_
  rintro e w' ⟨rfl, rfl⟩
  go_wp2_with fail
  refine (x1.out _).mono ?_
  rintro e w' ⟨rfl, rfl⟩
  go_wp2_with fail
  go_loopw [6, 7] (fun vp vi wr => ∃ j : Nat, ∃ i : Int, vp = .float .f64 (tS z j) ∧ vi = .int .i64 i ∧ Hid (j ≤ 20 ∧ i = 39 - 2 * (j : Int)) ∧ w = wr) (fun _ vi _ => (intOf vi + 1).toNat)
  case atStart => exact ⟨0, 39, rfl, rfl, Lib.hid ⟨by omega, by omega⟩, rfl⟩
  case round =>
    obtain ⟨j, i, rfl, rfl, HI, rfl⟩ := hrel
    rcases Int.lt_or_le i 1 with h0 | h0
    · have t1 : decide (1 ≤ i) = false := decide_eq_false (by omega)
      have hpp : tS z j = p := by rw [show j = 20 by have := HI.out; omega]; exact HP.out
      rw [hpp]
      clear h0 hpp
      go_wp2_with fail
      refine (x2.out _).mono ?_
      rintro e w' ⟨rfl, rfl⟩
      go_wp2_with fail
      refine (CS.out _).mono ?_
      rintro e w' ⟨rfl, rfl⟩
      go_wp2
      go_ret
      exact ⟨rfl, rfl⟩
    · obtain ⟨q, f, d1, d2, d3⟩ := HL.out j (by have := HI.out; omega)
      rw [show 39 - 2 * (j : Int) = i by have := HI.out; omega] at d1
      obtain ⟨P, hP⟩ : ∃ P, tS z j = P := ⟨_, rfl⟩
      obtain ⟨P2, hP2⟩ : ∃ P2, tS z (j + 1) = P2 := ⟨_, rfl⟩
      rw [hP] at d2 ⊢
      rw [hP2] at d3
      have u1 := wDiv d1
      have u2 := Lib.hid (fun W => times_any d2 W)
      have u3 := wSub d3
      have t1 : decide (1 ≤ i) = true := decide_eq_true (by omega)
      obtain ⟨i2, hi2⟩ : ∃ i2, i - 2 = i2 := ⟨_, rfl⟩
      have k3 : IntKind.i64.wrap (i - 2) = i2 := by rw [IntWalk.i64_in _ (by have := HI.out; omega)]; exact hi2
      have H2 := Lib.hid (show tS z (j + 1) = P2 ∧ (j + 1 ≤ 20 ∧ i2 = 39 - 2 * ((j + 1 : Nat) : Int)) ∧ i2 < i ∧ 1 ≤ i from ⟨hP2, ⟨by have := HI.out; omega, by have := HI.out; omega⟩, by omega, by omega⟩)
      clear d1 d2 d3 hP hP2 hi2 h0
      go_wp2_with fail
      refine (u2.out _).mono ?_
      rintro e w' ⟨rfl, rfl⟩
      go_wp2
      go_roundw
      case rel => exact ⟨j + 1, i2, by rw [H2.out.1], rfl, Lib.hid H2.out.2.1, trivial⟩
      case measure => have := H2.out.2.2; simp [intOf]; omega
set_option maxRecDepth 100000 in
set_option maxHeartbeats 1000000 in
theorem vAtan_1 (x : Nat) (w : World) (hx : x < 18446744073709551616) (nx : fnan x = false) (h0 : (FloatKind.f64.format.order x 0 == some .eq) = false) (Q : AtQ (rung x)) (h1 : far1 (rung x) = true) : Calls Try.prog 23 #[.float .f64 x] w fun e w' => e = .returned (.float .f64 (Ieee.double.word (fneg x) (rung (atV (rung x))))) ∧ w = w' := by
  have CX := Lib.hid (fun W => isNaN_any x W)
  rw [nx] at CX
  have CS := Lib.hid (fun W => copysign_any (atV (rung x)) x W Q.lt hx)
  obtain ⟨R, hR⟩ : ∃ R, Ieee.double.word (fneg x) (rung (atV (rung x))) = R := ⟨_, rfl⟩
  rw [hR] at CS ⊢
  have CA := Lib.hid (fun W => abs_any x W hx)
  obtain ⟨a, ha⟩ : ∃ a, rung x = a := ⟨_, rfl⟩
  rw [ha] at CA CS Q h1
  obtain ⟨y1, y2, m1, hl, m2, m3, _⟩ := Q
  have y := y1 h1
  have hB : atB a = 4609753056924675352 := by unfold atB; rw [h1]; rfl
  have k1 : (FloatKind.f64.format.order a 4612618744449965542 == some .gt) = true := h1
  have wy := wDiv y
  have CB : RowKit.Hid (∀ W : World, Calls Try.prog 53 #[] W fun e w' => e = .returned (.float .f64 4609753056924675352) ∧ W = w') := Lib.hid (fun W => vpi2_any W)
  rw [hB] at m3
  obtain ⟨V, hV⟩ : ∃ V, atV a = V := ⟨_, rfl⟩
  rw [hV] at CS m3
  obtain ⟨Y, hY⟩ : ∃ Y, atY a = Y := ⟨_, rfl⟩
  rw [hY] at m1 hl m2 m3 wy
  obtain ⟨z, hz⟩ : ∃ z, mulF Y Y = z := ⟨_, rfl⟩
  rw [hz] at m1 hl m2 m3
  obtain ⟨p, hp⟩ : ∃ p, tS z 20 = p := ⟨_, rfl⟩
  rw [hp] at m2 m3
  obtain ⟨T, hT⟩ : ∃ T, mulF Y p = T := ⟨_, rfl⟩
  rw [hT] at m2 m3
  have HL := Lib.hid hl
  have HP := Lib.hid hp
  have w3 := wAdd m3
  have x1 := wMul m1
  have x2 := wMul m2
  clear hx nx hR ha y1 y2 m1 hl m2 m3 hV hz hp hT y hB h1 hY
  go_enter Try.func23, Try.ntmps23
  go_wp2_with fail
  refine (CX.out _).mono ?_
  rintro e w' ⟨rfl, rfl⟩
  go_wp2_with fail
  refine (CA.out _).mono ?_
  rintro e w' ⟨rfl, rfl⟩
  go_wp2_with fail
  refine (CB.out _).mono ?_
  rintro e w' ⟨rfl, rfl⟩
  go_wp2_with fail
  go_loopw [6, 7] (fun vp vi wr => ∃ j : Nat, ∃ i : Int, vp = .float .f64 (tS z j) ∧ vi = .int .i64 i ∧ Hid (j ≤ 20 ∧ i = 39 - 2 * (j : Int)) ∧ w = wr) (fun _ vi _ => (intOf vi + 1).toNat)
  case atStart => exact ⟨0, 39, rfl, rfl, Lib.hid ⟨by omega, by omega⟩, rfl⟩
  case round =>
    obtain ⟨j, i, rfl, rfl, HI, rfl⟩ := hrel
    rcases Int.lt_or_le i 1 with h0 | h0
    · have t1 : decide (1 ≤ i) = false := decide_eq_false (by omega)
      have hpp : tS z j = p := by rw [show j = 20 by have := HI.out; omega]; exact HP.out
      rw [hpp]
      clear h0 hpp
      go_wp2_with fail
      refine (CS.out _).mono ?_
      rintro e w' ⟨rfl, rfl⟩
      go_wp2
      go_ret
      exact ⟨rfl, rfl⟩
    · obtain ⟨q, f, d1, d2, d3⟩ := HL.out j (by have := HI.out; omega)
      rw [show 39 - 2 * (j : Int) = i by have := HI.out; omega] at d1
      obtain ⟨P, hP⟩ : ∃ P, tS z j = P := ⟨_, rfl⟩
      obtain ⟨P2, hP2⟩ : ∃ P2, tS z (j + 1) = P2 := ⟨_, rfl⟩
      rw [hP] at d2 ⊢
      rw [hP2] at d3
      have u1 := wDiv d1
      have u2 := wMul d2
      have u3 := wSub d3
      have t1 : decide (1 ≤ i) = true := decide_eq_true (by omega)
      obtain ⟨i2, hi2⟩ : ∃ i2, i - 2 = i2 := ⟨_, rfl⟩
      have k3 : IntKind.i64.wrap (i - 2) = i2 := by rw [IntWalk.i64_in _ (by have := HI.out; omega)]; exact hi2
      have H2 := Lib.hid (show tS z (j + 1) = P2 ∧ (j + 1 ≤ 20 ∧ i2 = 39 - 2 * ((j + 1 : Nat) : Int)) ∧ i2 < i ∧ 1 ≤ i from ⟨hP2, ⟨by have := HI.out; omega, by have := HI.out; omega⟩, by omega, by omega⟩)
      clear d1 d2 d3 hP hP2 hi2 h0
      go_wp2
      go_roundw
      case rel => exact ⟨j + 1, i2, by rw [H2.out.1], rfl, Lib.hid H2.out.2.1, trivial⟩
      case measure => have := H2.out.2.2; simp [intOf]; omega
set_option maxRecDepth 100000 in
set_option maxHeartbeats 1000000 in
theorem vAtan_2 (x : Nat) (w : World) (hx : x < 18446744073709551616) (nx : fnan x = false) (h0 : (FloatKind.f64.format.order x 0 == some .eq) = false) (Q : AtQ (rung x)) (h1 : far1 (rung x) = false) (h2 : far2 (rung x) = true) : Calls Try.prog 23 #[.float .f64 x] w fun e w' => e = .returned (.float .f64 (Ieee.double.word (fneg x) (rung (atV (rung x))))) ∧ w = w' := by
  have CX := Lib.hid (fun W => isNaN_any x W)
  rw [nx] at CX
  have CS := Lib.hid (fun W => copysign_any (atV (rung x)) x W Q.lt hx)
  obtain ⟨R, hR⟩ : ∃ R, Ieee.double.word (fneg x) (rung (atV (rung x))) = R := ⟨_, rfl⟩
  rw [hR] at CS ⊢
  have CA := Lib.hid (fun W => abs_any x W hx)
  obtain ⟨a, ha⟩ : ∃ a, rung x = a := ⟨_, rfl⟩
  rw [ha] at CA CS Q h1 h2
  obtain ⟨y1, y2, m1, hl, m2, m3, _⟩ := Q
  obtain ⟨ya, yb, yc⟩ := y2 h1 h2
  have hB : atB a = 4605249457297304856 := by unfold atB; rw [h1, h2]; rfl
  obtain ⟨A, hA⟩ : ∃ A, subF a 4607182418800017408 = A := ⟨_, rfl⟩
  obtain ⟨B, hBB⟩ : ∃ B, addF a 4607182418800017408 = B := ⟨_, rfl⟩
  rw [hA] at ya yc
  rw [hBB] at yb yc
  have wa := wSub ya
  have wb := wAdd yb
  have wc := wDiv yc
  have k1 : (FloatKind.f64.format.order a 4612618744449965542 == some .gt) = false := h1
  have k2 : (FloatKind.f64.format.order a 4601133428098527026 == some .gt) = true := h2
  have CB : RowKit.Hid (∀ W : World, Calls Try.prog 54 #[] W fun e w' => e = .returned (.float .f64 4605249457297304856) ∧ W = w') := Lib.hid (fun W => vpi4_any W)
  rw [hB] at m3
  obtain ⟨V, hV⟩ : ∃ V, atV a = V := ⟨_, rfl⟩
  rw [hV] at CS m3
  obtain ⟨Y, hY⟩ : ∃ Y, atY a = Y := ⟨_, rfl⟩
  rw [hY] at m1 hl m2 m3 wc
  obtain ⟨z, hz⟩ : ∃ z, mulF Y Y = z := ⟨_, rfl⟩
  rw [hz] at m1 hl m2 m3
  obtain ⟨p, hp⟩ : ∃ p, tS z 20 = p := ⟨_, rfl⟩
  rw [hp] at m2 m3
  obtain ⟨T, hT⟩ : ∃ T, mulF Y p = T := ⟨_, rfl⟩
  rw [hT] at m2 m3
  have HL := Lib.hid hl
  have HP := Lib.hid hp
  have w3 := wAdd m3
  have x1 := wMul m1
  have x2 := wMul m2
  clear hx nx hR ha y1 y2 m1 hl m2 m3 hV hz hp hT ya yb yc hB hA hBB h1 h2 hY
  go_enter Try.func23, Try.ntmps23
  go_wp2_with fail
  refine (CX.out _).mono ?_
  rintro e w' ⟨rfl, rfl⟩
  go_wp2_with fail
  refine (CA.out _).mono ?_
  rintro e w' ⟨rfl, rfl⟩
  go_wp2_with fail
  refine (CB.out _).mono ?_
  rintro e w' ⟨rfl, rfl⟩
  go_wp2_with fail
  go_loopw [6, 7] (fun vp vi wr => ∃ j : Nat, ∃ i : Int, vp = .float .f64 (tS z j) ∧ vi = .int .i64 i ∧ Hid (j ≤ 20 ∧ i = 39 - 2 * (j : Int)) ∧ w = wr) (fun _ vi _ => (intOf vi + 1).toNat)
  case atStart => exact ⟨0, 39, rfl, rfl, Lib.hid ⟨by omega, by omega⟩, rfl⟩
  case round =>
    obtain ⟨j, i, rfl, rfl, HI, rfl⟩ := hrel
    rcases Int.lt_or_le i 1 with h0 | h0
    · have t1 : decide (1 ≤ i) = false := decide_eq_false (by omega)
      have hpp : tS z j = p := by rw [show j = 20 by have := HI.out; omega]; exact HP.out
      rw [hpp]
      clear h0 hpp
      go_wp2_with fail
      refine (CS.out _).mono ?_
      rintro e w' ⟨rfl, rfl⟩
      go_wp2
      go_ret
      exact ⟨rfl, rfl⟩
    · obtain ⟨q, f, d1, d2, d3⟩ := HL.out j (by have := HI.out; omega)
      rw [show 39 - 2 * (j : Int) = i by have := HI.out; omega] at d1
      obtain ⟨P, hP⟩ : ∃ P, tS z j = P := ⟨_, rfl⟩
      obtain ⟨P2, hP2⟩ : ∃ P2, tS z (j + 1) = P2 := ⟨_, rfl⟩
      rw [hP] at d2 ⊢
      rw [hP2] at d3
      have u1 := wDiv d1
      have u2 := wMul d2
      have u3 := wSub d3
      have t1 : decide (1 ≤ i) = true := decide_eq_true (by omega)
      obtain ⟨i2, hi2⟩ : ∃ i2, i - 2 = i2 := ⟨_, rfl⟩
      have k3 : IntKind.i64.wrap (i - 2) = i2 := by rw [IntWalk.i64_in _ (by have := HI.out; omega)]; exact hi2
      have H2 := Lib.hid (show tS z (j + 1) = P2 ∧ (j + 1 ≤ 20 ∧ i2 = 39 - 2 * ((j + 1 : Nat) : Int)) ∧ i2 < i ∧ 1 ≤ i from ⟨hP2, ⟨by have := HI.out; omega, by have := HI.out; omega⟩, by omega, by omega⟩)
      clear d1 d2 d3 hP hP2 hi2 h0
      go_wp2
      go_roundw
      case rel => exact ⟨j + 1, i2, by rw [H2.out.1], rfl, Lib.hid H2.out.2.1, trivial⟩
      case measure => have := H2.out.2.2; simp [intOf]; omega
set_option maxRecDepth 100000 in
set_option maxHeartbeats 1000000 in
theorem vAtan_3 (x : Nat) (w : World) (hx : x < 18446744073709551616) (nx : fnan x = false) (h0 : (FloatKind.f64.format.order x 0 == some .eq) = false) (Q : AtQ (rung x)) (h1 : far1 (rung x) = false) (h2 : far2 (rung x) = false) : Calls Try.prog 23 #[.float .f64 x] w fun e w' => e = .returned (.float .f64 (Ieee.double.word (fneg x) (rung (atV (rung x))))) ∧ w = w' := by
  have CX := Lib.hid (fun W => isNaN_any x W)
  rw [nx] at CX
  have CS := Lib.hid (fun W => copysign_any (atV (rung x)) x W Q.lt hx)
  obtain ⟨R, hR⟩ : ∃ R, Ieee.double.word (fneg x) (rung (atV (rung x))) = R := ⟨_, rfl⟩
  rw [hR] at CS ⊢
  have CA := Lib.hid (fun W => abs_any x W hx)
  obtain ⟨a, ha⟩ : ∃ a, rung x = a := ⟨_, rfl⟩
  rw [ha] at CA CS Q h1 h2
  obtain ⟨y1, y2, m1, hl, m2, m3, _⟩ := Q
  have hB : atB a = 0 := by unfold atB; rw [h1, h2]; rfl
  have hYa : atY a = a := by unfold atY; rw [h1, h2]; rfl
  have k1 : (FloatKind.f64.format.order a 4612618744449965542 == some .gt) = false := h1
  have k2 : (FloatKind.f64.format.order a 4601133428098527026 == some .gt) = false := h2
  rw [hYa] at m1 hl m2
  rw [hB] at m3
  rw [hYa] at m3
  obtain ⟨V, hV⟩ : ∃ V, atV a = V := ⟨_, rfl⟩
  rw [hV] at CS m3
  obtain ⟨z, hz⟩ : ∃ z, mulF a a = z := ⟨_, rfl⟩
  rw [hz] at m1 hl m2 m3
  obtain ⟨p, hp⟩ : ∃ p, tS z 20 = p := ⟨_, rfl⟩
  rw [hp] at m2 m3
  obtain ⟨T, hT⟩ : ∃ T, mulF a p = T := ⟨_, rfl⟩
  rw [hT] at m2 m3
  have HL := Lib.hid hl
  have HP := Lib.hid hp
  have w3 := wAdd m3
  have x1 := wMul m1
  have x2 := wMul m2
  clear hx nx hR ha y1 y2 m1 hl m2 m3 hV hz hp hT hB hYa h1 h2
  go_enter Try.func23, Try.ntmps23
  go_wp2_with fail
  refine (CX.out _).mono ?_
  rintro e w' ⟨rfl, rfl⟩
  go_wp2_with fail
  refine (CA.out _).mono ?_
  rintro e w' ⟨rfl, rfl⟩
  go_wp2_with fail
  go_loopw [6, 7] (fun vp vi wr => ∃ j : Nat, ∃ i : Int, vp = .float .f64 (tS z j) ∧ vi = .int .i64 i ∧ Hid (j ≤ 20 ∧ i = 39 - 2 * (j : Int)) ∧ w = wr) (fun _ vi _ => (intOf vi + 1).toNat)
  case atStart => exact ⟨0, 39, rfl, rfl, Lib.hid ⟨by omega, by omega⟩, rfl⟩
  case round =>
    obtain ⟨j, i, rfl, rfl, HI, rfl⟩ := hrel
    rcases Int.lt_or_le i 1 with h0 | h0
    · have t1 : decide (1 ≤ i) = false := decide_eq_false (by omega)
      have hpp : tS z j = p := by rw [show j = 20 by have := HI.out; omega]; exact HP.out
      rw [hpp]
      clear h0 hpp
      go_wp2_with fail
      refine (CS.out _).mono ?_
      rintro e w' ⟨rfl, rfl⟩
      go_wp2
      go_ret
      exact ⟨rfl, rfl⟩
    · obtain ⟨q, f, d1, d2, d3⟩ := HL.out j (by have := HI.out; omega)
      rw [show 39 - 2 * (j : Int) = i by have := HI.out; omega] at d1
      obtain ⟨P, hP⟩ : ∃ P, tS z j = P := ⟨_, rfl⟩
      obtain ⟨P2, hP2⟩ : ∃ P2, tS z (j + 1) = P2 := ⟨_, rfl⟩
      rw [hP] at d2 ⊢
      rw [hP2] at d3
      have u1 := wDiv d1
      have u2 := wMul d2
      have u3 := wSub d3
      have t1 : decide (1 ≤ i) = true := decide_eq_true (by omega)
      obtain ⟨i2, hi2⟩ : ∃ i2, i - 2 = i2 := ⟨_, rfl⟩
      have k3 : IntKind.i64.wrap (i - 2) = i2 := by rw [IntWalk.i64_in _ (by have := HI.out; omega)]; exact hi2
      have H2 := Lib.hid (show tS z (j + 1) = P2 ∧ (j + 1 ≤ 20 ∧ i2 = 39 - 2 * ((j + 1 : Nat) : Int)) ∧ i2 < i ∧ 1 ≤ i from ⟨hP2, ⟨by have := HI.out; omega, by have := HI.out; omega⟩, by omega, by omega⟩)
      clear d1 d2 d3 hP hP2 hi2 h0
      go_wp2
      go_roundw
      case rel => exact ⟨j + 1, i2, by rw [H2.out.1], rfl, Lib.hid H2.out.2.1, trivial⟩
      case measure => have := H2.out.2.2; simp [intOf]; omega
end Go.Proofs.Ytbinpcoaghpcdaa
