/-
  Log of the program and of the reference, of every float: they tell one float.
-/
import Derived.Test.YtbinpcoaghpcdaaEz
namespace Go.Proofs.Ytbinpcoaghpcdaa
open Go.RowKit
theorem mul_turn (x y : Nat) : Ieee.double.mul x y = Ieee.double.mul y x := by
  unfold Ieee.Format.mul
  rcases Ieee.double.read x with ⟨s, m, i⟩ | s | ⟨s, t⟩ <;> rcases Ieee.double.read y with ⟨s', m', i'⟩ | s' | ⟨s', t'⟩ <;> simp only [Ieee.Datum.product, Bool.xor_comm, Nat.mul_comm, Int.add_comm]
/-- The sum of Log, term by term. -/
def lS (z : Nat) : Nat → Nat
  | 0 => 4585925428558828667
  | j + 1 => addF (mulF (lS z j) z) (divF 4607182418800017408 (floatOfInt .f64 (23 - 2 * (j : Int))))
structure LogQ (f d1 d2 s z ss tp e lo t hi u : Nat) (n : Int) : Prop where
  m1 : Ieee.double.sub f 4607182418800017408 = some d1
  m2 : Ieee.double.add f 4607182418800017408 = some d2
  m3 : Ieee.double.div d1 d2 = some s
  m4 : Ieee.double.mul s s = some z
  m5 : Ieee.double.add s s = some ss
  m6 : Ieee.double.mul ss (lS z 12) = some tp
  m7 : floatOfInt .f64 n = e
  m8 : Ieee.double.mul e 4461442080421002358 = some lo
  m9 : Ieee.double.add tp lo = some t
  m10 : Ieee.double.mul e 4604418534311723008 = some hi
  m11 : Ieee.double.add hi t = some u
  hl : ∀ j, j < 12 → ∃ d q, Ieee.double.mul (lS z j) z = some d ∧ Ieee.double.div 4607182418800017408 (floatOfInt .f64 (23 - 2 * (j : Int))) = some q ∧ Ieee.double.add d q = some (lS z (j + 1))
set_option maxRecDepth 100000 in
set_option maxHeartbeats 1000000 in
theorem vLog_half (x f0 f d1 d2 s z ss tp E lo t hi u : Nat) (n0 n : Int) (w : World) (Q : LogQ f d1 d2 s z ss tp E lo t hi u n) (e1 : fnan x = false) (g1 : (FloatKind.f64.format.order x 0 == some .lt) = false) (g2 : (FloatKind.f64.format.order x 0 == some .eq) = false) (g3 : (finf x && !fneg x) = false)
    (C9 : RowKit.Hid (∀ W, Calls Try.prog 45 #[.float .f64 x] W fun e w' => e = .returned (.tuple #[.float .f64 f0, .int .i64 n0]) ∧ W = w'))
    (g4 : (FloatKind.f64.format.order f0 4604544271217802189 == some .lt) = true) (hn : IntKind.i64.wrap (n0 - 1) = n) (k0 : Ieee.double.mul f0 4611686018427387904 = some f) : Calls Try.prog 14 #[.float .f64 x] w fun e w' => e = .returned (.float .f64 u) ∧ w = w' := by
  obtain ⟨m1, m2, m3, m4, m5, m6, m7, m8, m9, m10, m11, hl⟩ := Q
  have C1 := Lib.hid (fun W => isNaN_any x W)
  have C2 := Lib.hid (fun W => isInf1_any x W)
  rw [e1] at C1
  rw [g3] at C2
  have HL := Lib.hid hl
  have w1 := wSub m1
  have w2 := wAdd m2
  have w3 := wDiv m3
  have w5 := wAdd m5
  have w9 := wAdd m9
  have w11 := wAdd m11
  obtain ⟨p, hp⟩ : ∃ p, lS z 12 = p := ⟨_, rfl⟩
  rw [hp] at m6
  have HP := Lib.hid hp
  have C3 := Lib.hid (fun c W => of_any c W)
  have w4 := wMul m4
  have w6 := wMul m6
  have w8 := wMul m8
  have w10 := wMul m10
  have w0 := wMul k0
  clear k0
  clear e1 g3 m1 m2 m3 m4 m5 m6 m8 m9 m10 m11 hl hp
  go_enter Try.func14, Try.ntmps14
  go_wp2_with fail
  refine (C1.out _).mono ?_
  rintro e w' ⟨rfl, rfl⟩
  go_wp2_with fail
  refine (C2.out _).mono ?_
  rintro e w' ⟨rfl, rfl⟩
  go_wp2_with fail
  refine (C9.out _).mono ?_
  rintro e w' ⟨rfl, rfl⟩
  go_wp2_with fail
  go_loopw [8, 9] (fun vp vi wr => ∃ j : Nat, ∃ i : Int, vp = .float .f64 (lS z j) ∧ vi = .int .i64 i ∧ Hid (j ≤ 12 ∧ i = 23 - 2 * (j : Int)) ∧ w = wr) (fun _ vi _ => (intOf vi + 1).toNat)
  case atStart => exact ⟨0, 23, rfl, rfl, Lib.hid ⟨by omega, by omega⟩, rfl⟩
  case round =>
    obtain ⟨j, i, rfl, rfl, HI, rfl⟩ := hrel
    rcases Int.lt_or_le i 1 with h0 | h0
    · have t1 : decide (1 ≤ i) = false := decide_eq_false (by omega)
      have hpp : lS z j = p := by rw [show j = 12 by have := HI.out; omega]; exact HP.out
      rw [hpp]
      clear h0 hpp
      go_wp2_with fail
      refine (C3.out _ _).mono ?_
      rintro e w' ⟨rfl, rfl⟩
      go_wp2_with fail
      refine (C3.out _ _).mono ?_
      rintro e w' ⟨rfl, rfl⟩
      go_wp2
      go_ret
      exact ⟨rfl, rfl⟩
    · obtain ⟨d, q, d1', d2', d3'⟩ := HL.out j (by have := HI.out; omega)
      rw [show 23 - 2 * (j : Int) = i by have := HI.out; omega] at d2'
      obtain ⟨P, hP⟩ : ∃ P, lS z j = P := ⟨_, rfl⟩
      obtain ⟨P2, hP2⟩ : ∃ P2, lS z (j + 1) = P2 := ⟨_, rfl⟩
      rw [hP] at d1' ⊢
      rw [hP2] at d3'
      have x1 := wMul d1'
      have x2 := wDiv d2'
      have x3 := wAdd d3'
      have t1 : decide (1 ≤ i) = true := decide_eq_true (by omega)
      obtain ⟨i2, hi2⟩ : ∃ i2, i - 2 = i2 := ⟨_, rfl⟩
      have k1 : IntKind.i64.wrap (i - 2) = i2 := by rw [IntWalk.i64_in _ (by have := HI.out; omega)]; exact hi2
      have H2 := Lib.hid (show lS z (j + 1) = P2 ∧ (j + 1 ≤ 12 ∧ i2 = 23 - 2 * ((j + 1 : Nat) : Int)) ∧ i2 < i ∧ 1 ≤ i from ⟨hP2, ⟨by have := HI.out; omega, by have := HI.out; omega⟩, by omega, by omega⟩)
      clear d1' d2' d3' hP hP2 hi2 h0
      go_wp2
      go_roundw
      case rel => exact ⟨j + 1, i2, by rw [H2.out.1], rfl, Lib.hid H2.out.2.1, trivial⟩
      case measure => have := H2.out.2.2; simp [intOf]; omega
set_option maxRecDepth 100000 in
set_option maxHeartbeats 1000000 in
theorem vLog_whole (x f0 f d1 d2 s z ss tp E lo t hi u : Nat) (n0 n : Int) (w : World) (Q : LogQ f d1 d2 s z ss tp E lo t hi u n) (e1 : fnan x = false) (g1 : (FloatKind.f64.format.order x 0 == some .lt) = false) (g2 : (FloatKind.f64.format.order x 0 == some .eq) = false) (g3 : (finf x && !fneg x) = false)
    (C9 : RowKit.Hid (∀ W, Calls Try.prog 45 #[.float .f64 x] W fun e w' => e = .returned (.tuple #[.float .f64 f0, .int .i64 n0]) ∧ W = w'))
    (g4 : (FloatKind.f64.format.order f0 4604544271217802189 == some .lt) = false) (hn : n0 = n) (k0 : f0 = f) : Calls Try.prog 14 #[.float .f64 x] w fun e w' => e = .returned (.float .f64 u) ∧ w = w' := by
  obtain ⟨m1, m2, m3, m4, m5, m6, m7, m8, m9, m10, m11, hl⟩ := Q
  have C1 := Lib.hid (fun W => isNaN_any x W)
  have C2 := Lib.hid (fun W => isInf1_any x W)
  rw [e1] at C1
  rw [g3] at C2
  have HL := Lib.hid hl
  have w1 := wSub m1
  have w2 := wAdd m2
  have w3 := wDiv m3
  have w5 := wAdd m5
  have w9 := wAdd m9
  have w11 := wAdd m11
  obtain ⟨p, hp⟩ : ∃ p, lS z 12 = p := ⟨_, rfl⟩
  rw [hp] at m6
  have HP := Lib.hid hp
  subst hn
  subst k0
  have C3 := Lib.hid (fun c W => of_any c W)
  have w4 := wMul m4
  have w6 := wMul m6
  have w8 := wMul m8
  have w10 := wMul m10
  clear e1 g3 m1 m2 m3 m4 m5 m6 m8 m9 m10 m11 hl hp
  go_enter Try.func14, Try.ntmps14
  go_wp2_with fail
  refine (C1.out _).mono ?_
  rintro e w' ⟨rfl, rfl⟩
  go_wp2_with fail
  refine (C2.out _).mono ?_
  rintro e w' ⟨rfl, rfl⟩
  go_wp2_with fail
  refine (C9.out _).mono ?_
  rintro e w' ⟨rfl, rfl⟩
  go_wp2_with fail
  go_loopw [8, 9] (fun vp vi wr => ∃ j : Nat, ∃ i : Int, vp = .float .f64 (lS z j) ∧ vi = .int .i64 i ∧ Hid (j ≤ 12 ∧ i = 23 - 2 * (j : Int)) ∧ w = wr) (fun _ vi _ => (intOf vi + 1).toNat)
  case atStart => exact ⟨0, 23, rfl, rfl, Lib.hid ⟨by omega, by omega⟩, rfl⟩
  case round =>
    obtain ⟨j, i, rfl, rfl, HI, rfl⟩ := hrel
    rcases Int.lt_or_le i 1 with h0 | h0
    · have t1 : decide (1 ≤ i) = false := decide_eq_false (by omega)
      have hpp : lS z j = p := by rw [show j = 12 by have := HI.out; omega]; exact HP.out
      rw [hpp]
      clear h0 hpp
      go_wp2_with fail
      refine (C3.out _ _).mono ?_
      rintro e w' ⟨rfl, rfl⟩
      go_wp2_with fail
      refine (C3.out _ _).mono ?_
      rintro e w' ⟨rfl, rfl⟩
      go_wp2
      go_ret
      exact ⟨rfl, rfl⟩
    · obtain ⟨d, q, d1', d2', d3'⟩ := HL.out j (by have := HI.out; omega)
      rw [show 23 - 2 * (j : Int) = i by have := HI.out; omega] at d2'
      obtain ⟨P, hP⟩ : ∃ P, lS z j = P := ⟨_, rfl⟩
      obtain ⟨P2, hP2⟩ : ∃ P2, lS z (j + 1) = P2 := ⟨_, rfl⟩
      rw [hP] at d1' ⊢
      rw [hP2] at d3'
      have x1 := wMul d1'
      have x2 := wDiv d2'
      have x3 := wAdd d3'
      have t1 : decide (1 ≤ i) = true := decide_eq_true (by omega)
      obtain ⟨i2, hi2⟩ : ∃ i2, i - 2 = i2 := ⟨_, rfl⟩
      have k1 : IntKind.i64.wrap (i - 2) = i2 := by rw [IntWalk.i64_in _ (by have := HI.out; omega)]; exact hi2
      have H2 := Lib.hid (show lS z (j + 1) = P2 ∧ (j + 1 ≤ 12 ∧ i2 = 23 - 2 * ((j + 1 : Nat) : Int)) ∧ i2 < i ∧ 1 ≤ i from ⟨hP2, ⟨by have := HI.out; omega, by have := HI.out; omega⟩, by omega, by omega⟩)
      clear d1' d2' d3' hP hP2 hi2 h0
      go_wp2
      go_roundw
      case rel => exact ⟨j + 1, i2, by rw [H2.out.1], rfl, Lib.hid H2.out.2.1, trivial⟩
      case measure => have := H2.out.2.2; simp [intOf]; omega
set_option maxRecDepth 100000 in
set_option maxHeartbeats 1000000 in
theorem fLog_half (x f0 f d1 d2 s z ss tp E lo t hi u : Nat) (n0 n : Int) (w : World) (Q : LogQ f d1 d2 s z ss tp E lo t hi u n) (e1 : fnan x = false) (g1 : (FloatKind.f64.format.order x 0 == some .lt) = false) (g2 : (FloatKind.f64.format.order x 0 == some .eq) = false) (g3 : (finf x && !fneg x) = false)
    (C9 : RowKit.Hid (∀ W, Calls Try.prog 45 #[.float .f64 x] W fun e w' => e = .returned (.tuple #[.float .f64 f0, .int .i64 n0]) ∧ W = w'))
    (g4 : (FloatKind.f64.format.order f0 4604544271217802189 == some .lt) = true) (hn : IntKind.i64.wrap (n0 - 1) = n) (k0 : Ieee.double.mul f0 4611686018427387904 = some f) : Calls Try.prog 13 #[.float .f64 x] w fun e w' => e = .returned (.float .f64 u) ∧ w = w' := by
  obtain ⟨m1, m2, m3, m4, m5, m6, m7, m8, m9, m10, m11, hl⟩ := Q
  have C1 := Lib.hid (fun W => isNaN_any x W)
  have C2 := Lib.hid (fun W => isInf1_any x W)
  rw [e1] at C1
  rw [g3] at C2
  have HL := Lib.hid hl
  have w1 := wSub m1
  have w2 := wAdd m2
  have w3 := wDiv m3
  have w5 := wAdd m5
  have w9 := wAdd m9
  have w11 := wAdd m11
  obtain ⟨p, hp⟩ : ∃ p, lS z 12 = p := ⟨_, rfl⟩
  rw [hp] at m6
  have HP := Lib.hid hp
  have C3 := Lib.hid (fun c W => const_any c W)
  have w4 := Lib.hid (fun W => times_any m4 W)
  have w6 := Lib.hid (fun W => times_any m6 W)
  have w8 := Lib.hid (fun W => times_any m8 W)
  have w10 := Lib.hid (fun W => times_any m10 W)
  rw [mul_turn] at k0
  have w0 := wMul k0
  clear k0
  clear e1 g3 m1 m2 m3 m4 m5 m6 m8 m9 m10 m11 hl hp
  go_enter Try.func13, Try.ntmps13
  go_wp2_with fail
  refine (C1.out _).mono ?_
  rintro e w' ⟨rfl, rfl⟩
  go_wp2_with fail
  refine (C2.out _).mono ?_
  rintro e w' ⟨rfl, rfl⟩
  go_wp2_with fail
  refine (C9.out _).mono ?_
  rintro e w' ⟨rfl, rfl⟩
  go_wp2_with fail
  refine (w4.out _).mono ?_
  rintro e w' ⟨rfl, rfl⟩
  go_wp2_with fail
  go_loopw [7, 8] (fun vp vi wr => ∃ j : Nat, ∃ i : Int, vp = .float .f64 (lS z j) ∧ vi = .int .i64 i ∧ Hid (j ≤ 12 ∧ i = 23 - 2 * (j : Int)) ∧ w = wr) (fun _ vi _ => (intOf vi + 1).toNat)
  case atStart => exact ⟨0, 23, rfl, rfl, Lib.hid ⟨by omega, by omega⟩, rfl⟩
  case round =>
    obtain ⟨j, i, rfl, rfl, HI, rfl⟩ := hrel
    rcases Int.lt_or_le i 1 with h0 | h0
    · have t1 : decide (1 ≤ i) = false := decide_eq_false (by omega)
      have hpp : lS z j = p := by rw [show j = 12 by have := HI.out; omega]; exact HP.out
      rw [hpp]
      clear h0 hpp
      go_wp2_with fail
      refine (C3.out _ _).mono ?_
      rintro e w' ⟨rfl, rfl⟩
      go_wp2_with fail
      refine (w10.out _).mono ?_
      rintro e w' ⟨rfl, rfl⟩
      go_wp2_with fail
      refine (w6.out _).mono ?_
      rintro e w' ⟨rfl, rfl⟩
      go_wp2_with fail
      refine (C3.out _ _).mono ?_
      rintro e w' ⟨rfl, rfl⟩
      go_wp2_with fail
      refine (w8.out _).mono ?_
      rintro e w' ⟨rfl, rfl⟩
      go_wp2
      go_ret
      exact ⟨rfl, rfl⟩
    · obtain ⟨d, q, d1', d2', d3'⟩ := HL.out j (by have := HI.out; omega)
      rw [show 23 - 2 * (j : Int) = i by have := HI.out; omega] at d2'
      obtain ⟨P, hP⟩ : ∃ P, lS z j = P := ⟨_, rfl⟩
      obtain ⟨P2, hP2⟩ : ∃ P2, lS z (j + 1) = P2 := ⟨_, rfl⟩
      rw [hP] at d1' ⊢
      rw [hP2] at d3'
      have x1 := Lib.hid (fun W => times_any d1' W)
      have x2 := wDiv d2'
      have x3 := wAdd d3'
      have t1 : decide (1 ≤ i) = true := decide_eq_true (by omega)
      obtain ⟨i2, hi2⟩ : ∃ i2, i - 2 = i2 := ⟨_, rfl⟩
      have k1 : IntKind.i64.wrap (i - 2) = i2 := by rw [IntWalk.i64_in _ (by have := HI.out; omega)]; exact hi2
      have H2 := Lib.hid (show lS z (j + 1) = P2 ∧ (j + 1 ≤ 12 ∧ i2 = 23 - 2 * ((j + 1 : Nat) : Int)) ∧ i2 < i ∧ 1 ≤ i from ⟨hP2, ⟨by have := HI.out; omega, by have := HI.out; omega⟩, by omega, by omega⟩)
      clear d1' d2' d3' hP hP2 hi2 h0
      go_wp2_with fail
      refine (x1.out _).mono ?_
      rintro e w' ⟨rfl, rfl⟩
      go_wp2
      go_roundw
      case rel => exact ⟨j + 1, i2, by rw [H2.out.1], rfl, Lib.hid H2.out.2.1, trivial⟩
      case measure => have := H2.out.2.2; simp [intOf]; omega
set_option maxRecDepth 100000 in
set_option maxHeartbeats 1000000 in
theorem fLog_whole (x f0 f d1 d2 s z ss tp E lo t hi u : Nat) (n0 n : Int) (w : World) (Q : LogQ f d1 d2 s z ss tp E lo t hi u n) (e1 : fnan x = false) (g1 : (FloatKind.f64.format.order x 0 == some .lt) = false) (g2 : (FloatKind.f64.format.order x 0 == some .eq) = false) (g3 : (finf x && !fneg x) = false)
    (C9 : RowKit.Hid (∀ W, Calls Try.prog 45 #[.float .f64 x] W fun e w' => e = .returned (.tuple #[.float .f64 f0, .int .i64 n0]) ∧ W = w'))
    (g4 : (FloatKind.f64.format.order f0 4604544271217802189 == some .lt) = false) (hn : n0 = n) (k0 : f0 = f) : Calls Try.prog 13 #[.float .f64 x] w fun e w' => e = .returned (.float .f64 u) ∧ w = w' := by
  obtain ⟨m1, m2, m3, m4, m5, m6, m7, m8, m9, m10, m11, hl⟩ := Q
  have C1 := Lib.hid (fun W => isNaN_any x W)
  have C2 := Lib.hid (fun W => isInf1_any x W)
  rw [e1] at C1
  rw [g3] at C2
  have HL := Lib.hid hl
  have w1 := wSub m1
  have w2 := wAdd m2
  have w3 := wDiv m3
  have w5 := wAdd m5
  have w9 := wAdd m9
  have w11 := wAdd m11
  obtain ⟨p, hp⟩ : ∃ p, lS z 12 = p := ⟨_, rfl⟩
  rw [hp] at m6
  have HP := Lib.hid hp
  subst hn
  subst k0
  have C3 := Lib.hid (fun c W => const_any c W)
  have w4 := Lib.hid (fun W => times_any m4 W)
  have w6 := Lib.hid (fun W => times_any m6 W)
  have w8 := Lib.hid (fun W => times_any m8 W)
  have w10 := Lib.hid (fun W => times_any m10 W)
  clear e1 g3 m1 m2 m3 m4 m5 m6 m8 m9 m10 m11 hl hp
  go_enter Try.func13, Try.ntmps13
  go_wp2_with fail
  refine (C1.out _).mono ?_
  rintro e w' ⟨rfl, rfl⟩
  go_wp2_with fail
  refine (C2.out _).mono ?_
  rintro e w' ⟨rfl, rfl⟩
  go_wp2_with fail
  refine (C9.out _).mono ?_
  rintro e w' ⟨rfl, rfl⟩
  go_wp2_with fail
  refine (w4.out _).mono ?_
  rintro e w' ⟨rfl, rfl⟩
  go_wp2_with fail
  go_loopw [7, 8] (fun vp vi wr => ∃ j : Nat, ∃ i : Int, vp = .float .f64 (lS z j) ∧ vi = .int .i64 i ∧ Hid (j ≤ 12 ∧ i = 23 - 2 * (j : Int)) ∧ w = wr) (fun _ vi _ => (intOf vi + 1).toNat)
  case atStart => exact ⟨0, 23, rfl, rfl, Lib.hid ⟨by omega, by omega⟩, rfl⟩
  case round =>
    obtain ⟨j, i, rfl, rfl, HI, rfl⟩ := hrel
    rcases Int.lt_or_le i 1 with h0 | h0
    · have t1 : decide (1 ≤ i) = false := decide_eq_false (by omega)
      have hpp : lS z j = p := by rw [show j = 12 by have := HI.out; omega]; exact HP.out
      rw [hpp]
      clear h0 hpp
      go_wp2_with fail
      refine (C3.out _ _).mono ?_
      rintro e w' ⟨rfl, rfl⟩
      go_wp2_with fail
      refine (w10.out _).mono ?_
      rintro e w' ⟨rfl, rfl⟩
      go_wp2_with fail
      refine (w6.out _).mono ?_
      rintro e w' ⟨rfl, rfl⟩
      go_wp2_with fail
      refine (C3.out _ _).mono ?_
      rintro e w' ⟨rfl, rfl⟩
      go_wp2_with fail
      refine (w8.out _).mono ?_
      rintro e w' ⟨rfl, rfl⟩
      go_wp2
      go_ret
      exact ⟨rfl, rfl⟩
    · obtain ⟨d, q, d1', d2', d3'⟩ := HL.out j (by have := HI.out; omega)
      rw [show 23 - 2 * (j : Int) = i by have := HI.out; omega] at d2'
      obtain ⟨P, hP⟩ : ∃ P, lS z j = P := ⟨_, rfl⟩
      obtain ⟨P2, hP2⟩ : ∃ P2, lS z (j + 1) = P2 := ⟨_, rfl⟩
      rw [hP] at d1' ⊢
      rw [hP2] at d3'
      have x1 := Lib.hid (fun W => times_any d1' W)
      have x2 := wDiv d2'
      have x3 := wAdd d3'
      have t1 : decide (1 ≤ i) = true := decide_eq_true (by omega)
      obtain ⟨i2, hi2⟩ : ∃ i2, i - 2 = i2 := ⟨_, rfl⟩
      have k1 : IntKind.i64.wrap (i - 2) = i2 := by rw [IntWalk.i64_in _ (by have := HI.out; omega)]; exact hi2
      have H2 := Lib.hid (show lS z (j + 1) = P2 ∧ (j + 1 ≤ 12 ∧ i2 = 23 - 2 * ((j + 1 : Nat) : Int)) ∧ i2 < i ∧ 1 ≤ i from ⟨hP2, ⟨by have := HI.out; omega, by have := HI.out; omega⟩, by omega, by omega⟩)
      clear d1' d2' d3' hP hP2 hi2 h0
      go_wp2_with fail
      refine (x1.out _).mono ?_
      rintro e w' ⟨rfl, rfl⟩
      go_wp2
      go_roundw
      case rel => exact ⟨j + 1, i2, by rw [H2.out.1], rfl, Lib.hid H2.out.2.1, trivial⟩
      case measure => have := H2.out.2.2; simp [intOf]; omega
end Go.Proofs.Ytbinpcoaghpcdaa
