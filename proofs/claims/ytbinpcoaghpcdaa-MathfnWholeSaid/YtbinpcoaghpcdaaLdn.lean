/-
  The contract of math.Ldexp downwards, where the answer is exact.
-/
import Derived.Test.YtbinpcoaghpcdaaLawN
import Derived.Test.YtbinpcoaghpcdaaRD
namespace Go.Proofs.Ytbinpcoaghpcdaa
open Go.RowKit
set_option maxHeartbeats 1000000 in
theorem ldexp_down_n {M k D : Nat} (x u : Nat) (a1 : 4503599627370496 ≤ M) (a2 : M < 9007199254740992) (hx : x = k * 4503599627370496 + M) (h2 : x < 9218868437227405312) (hD : D ≤ k) (hu : u = (k - D) * 4503599627370496 + M) (w : World) :
    Calls Try.prog 69 #[.float .f64 x, .int .i64 (-(D : Int))] w fun e w' => e = .returned (.float .f64 u) ∧ w = w' := by
  have h1 : 4503599627370496 ≤ x := by omega
  obtain ⟨p1, p2, p3⟩ := pos_rung (x := x) (by omega)
  have C1 := Lib.hid (fun W => isNaN_any x W)
  have C2 := Lib.hid (fun W => isInf0_any x W (by omega))
  rw [show fnan x = false from by unfold fnan; rw [p1]; exact decide_eq_false (by omega)] at C1
  rw [show finf x = false from by unfold finf; rw [p1]; exact decide_eq_false (by omega)] at C2
  have C3 := Lib.hid (fun W => normalize_any x W h1 h2)
  have h3 := ord_zero x
  rw [p1, decide_eq_false (by omega)] at h3
  have h5 := f64bits_run x w
  have h6 := not_exp x (by omega)
  obtain ⟨t, ht2⟩ : ∃ t, M = 4503599627370496 + t := ⟨M - 4503599627370496, by omega⟩
  rw [show x % 4503599627370496 = t by omega] at h6
  have h7 := and_2047 (k + 1) (by omega)
  obtain ⟨Q, hQ⟩ : ∃ Q, k + 1 - D = Q := ⟨_, rfl⟩
  have h8 := or_exp t Q (by omega) (by omega)
  have e8 : t + Q * 4503599627370496 = u := by
    rw [hu, ht2, ← hQ, show k + 1 - D = (k - D) + 1 by omega]; omega
  rw [e8] at h8
  have h9 := f64from_run u w
  have h10 := one_mul (y := u) (by omega) (by omega)
  have h11 : (binOp BinOp.mul 22 (.float .f64 4607182418800017408) (.float .f64 u)).run Try.prog w = .ok (.float .f64 u) w := run_float_arith _ _ _ _ _ _ _ h10
  have k1 : (x : Int) / 4503599627370496 = ((k + 1 : Nat) : Int) := by omega
  have k2 : IntKind.i64.wrap ((k + 1 : Nat) : Int) = ((k + 1 : Nat) : Int) := IntWalk.i64_in _ (by omega)
  have k3 : IntKind.i64.wrap (((k + 1 : Nat) : Int) - 1023) = (k : Int) - 1022 := by rw [IntWalk.i64_in _ (by omega)]; omega
  obtain ⟨X0, hX0⟩ : ∃ X0, -(D : Int) = X0 := ⟨_, rfl⟩
  have k4 : IntKind.i64.wrap X0 = X0 := IntWalk.i64_in _ (by omega)
  have k4' : IntKind.i64.wrap (X0 + 0) = X0 := by rw [Int.add_zero]; exact k4
  have k5 : IntKind.i64.wrap (X0 + ((k : Int) - 1022)) = (Q : Int) - 1023 := by rw [IntWalk.i64_in _ (by omega)]; omega
  have k6 : IntKind.i64.wrap ((Q : Int) - 1023 + 1023) = (Q : Int) := by rw [IntWalk.i64_in _ (by omega)]; omega
  have k7 : IntKind.u64.wrap (Q : Int) = (Q : Int) := by rw [IntKind.wrap_u64]; omega
  have k8 : IntKind.u64.wrap ((Q : Int) * 4503599627370496) = ((Q * 4503599627370496 : Nat) : Int) := by rw [IntKind.wrap_u64]; omega
  have t1 : decide ((Q : Int) - 1023 < -1075) = false := decide_eq_false (by omega)
  have t2 : decide (1023 < (Q : Int) - 1023) = false := decide_eq_false (by omega)
  have t3 : decide ((Q : Int) - 1023 < -1022) = false := decide_eq_false (by omega)
  obtain ⟨q, hq⟩ : ∃ q, k + 1 = q := ⟨_, rfl⟩
  obtain ⟨X1, hX1⟩ : ∃ X1, (k : Int) - 1022 = X1 := ⟨_, rfl⟩
  obtain ⟨X3, hX3⟩ : ∃ X3, (Q : Int) - 1023 = X3 := ⟨_, rfl⟩
  rw [hq] at h7 k1 k2 k3
  rw [hX1] at k3 k5
  rw [hX3] at k5 k6 t1 t2 t3
  rw [hX0]
  rw [← k8] at h8
  clear h1 h2 hx a1 a2 hD hu p1 p2 p3 ht2 hQ e8 h10 k8 hq hX1 hX0 hX3
  go_enter Try.func69, Try.ntmps69
  go_wp2_with fail
  refine (C2.out _).mono ?_
  rintro e w' ⟨rfl, rfl⟩
  go_wp2_with fail
  refine (C1.out _).mono ?_
  rintro e w' ⟨rfl, rfl⟩
  go_wp2_with fail
  refine (C3.out _).mono ?_
  rintro e w' ⟨rfl, rfl⟩
  go_wp2
  go_ret
  exact ⟨rfl, rfl⟩
set_option maxHeartbeats 1000000 in
theorem ldexp_down_d {M k D : Nat} (x v r : Nat) (a1 : 4503599627370496 ≤ M) (a2 : M < 9007199254740992) (hx : x = k * 4503599627370496 + M) (h2 : x < 9218868437227405312) (hD : k < D) (hD2 : D ≤ k + 52) (hv : v = (k + 53 - D) * 4503599627370496 + M) (hr : Ieee.double.mul 4368491638549381120 v = some r) (w : World) :
    Calls Try.prog 69 #[.float .f64 x, .int .i64 (-(D : Int))] w fun e w' => e = .returned (.float .f64 r) ∧ w = w' := by
  have h1 : 4503599627370496 ≤ x := by omega
  obtain ⟨p1, p2, p3⟩ := pos_rung (x := x) (by omega)
  have C1 := Lib.hid (fun W => isNaN_any x W)
  have C2 := Lib.hid (fun W => isInf0_any x W (by omega))
  rw [show fnan x = false from by unfold fnan; rw [p1]; exact decide_eq_false (by omega)] at C1
  rw [show finf x = false from by unfold finf; rw [p1]; exact decide_eq_false (by omega)] at C2
  have C3 := Lib.hid (fun W => normalize_any x W h1 h2)
  have h3 := ord_zero x
  rw [p1, decide_eq_false (by omega)] at h3
  have h5 := f64bits_run x w
  have h6 := not_exp x (by omega)
  obtain ⟨t, ht2⟩ : ∃ t, M = 4503599627370496 + t := ⟨M - 4503599627370496, by omega⟩
  rw [show x % 4503599627370496 = t by omega] at h6
  have h7 := and_2047 (k + 1) (by omega)
  obtain ⟨Q, hQ⟩ : ∃ Q, k + 54 - D = Q := ⟨_, rfl⟩
  have h8 := or_exp t Q (by omega) (by omega)
  have e8 : t + Q * 4503599627370496 = v := by
    rw [hv, ht2, ← hQ, show k + 54 - D = (k + 53 - D) + 1 by omega]; omega
  rw [e8] at h8
  have h9 := f64from_run v w
  have h11 : (binOp BinOp.mul 22 (.float .f64 4368491638549381120) (.float .f64 v)).run Try.prog w = .ok (.float .f64 r) w := run_float_arith _ _ _ _ _ _ _ hr
  have k1 : (x : Int) / 4503599627370496 = ((k + 1 : Nat) : Int) := by omega
  have k2 : IntKind.i64.wrap ((k + 1 : Nat) : Int) = ((k + 1 : Nat) : Int) := IntWalk.i64_in _ (by omega)
  have k3 : IntKind.i64.wrap (((k + 1 : Nat) : Int) - 1023) = (k : Int) - 1022 := by rw [IntWalk.i64_in _ (by omega)]; omega
  obtain ⟨X0, hX0⟩ : ∃ X0, -(D : Int) = X0 := ⟨_, rfl⟩
  have k4 : IntKind.i64.wrap X0 = X0 := IntWalk.i64_in _ (by omega)
  have k4' : IntKind.i64.wrap (X0 + 0) = X0 := by rw [Int.add_zero]; exact k4
  have k5 : IntKind.i64.wrap (X0 + ((k : Int) - 1022)) = (Q : Int) - 1076 := by rw [IntWalk.i64_in _ (by omega)]; omega
  have k9 : IntKind.i64.wrap ((Q : Int) - 1076 + 53) = (Q : Int) - 1023 := by rw [IntWalk.i64_in _ (by omega)]; omega
  have k6 : IntKind.i64.wrap ((Q : Int) - 1023 + 1023) = (Q : Int) := by rw [IntWalk.i64_in _ (by omega)]; omega
  have k7 : IntKind.u64.wrap (Q : Int) = (Q : Int) := by rw [IntKind.wrap_u64]; omega
  have k8 : IntKind.u64.wrap ((Q : Int) * 4503599627370496) = ((Q * 4503599627370496 : Nat) : Int) := by rw [IntKind.wrap_u64]; omega
  have t1 : decide ((Q : Int) - 1076 < -1075) = false := decide_eq_false (by omega)
  have t2 : decide (1023 < (Q : Int) - 1076) = false := decide_eq_false (by omega)
  have t3 : decide ((Q : Int) - 1076 < -1022) = true := decide_eq_true (by omega)
  obtain ⟨q, hq⟩ : ∃ q, k + 1 = q := ⟨_, rfl⟩
  obtain ⟨X1, hX1⟩ : ∃ X1, (k : Int) - 1022 = X1 := ⟨_, rfl⟩
  obtain ⟨X3, hX3⟩ : ∃ X3, (Q : Int) - 1076 = X3 := ⟨_, rfl⟩
  obtain ⟨X4, hX4⟩ : ∃ X4, (Q : Int) - 1023 = X4 := ⟨_, rfl⟩
  rw [hq] at h7 k1 k2 k3
  rw [hX1] at k3 k5
  rw [hX3] at k5 k9 t1 t2 t3
  rw [hX4] at k9 k6
  rw [hX0]
  rw [← k8] at h8
  clear h1 h2 hx a1 a2 hD hD2 hv hr p1 p2 p3 ht2 hQ e8 k8 hq hX1 hX0 hX3 hX4
  go_enter Try.func69, Try.ntmps69
  go_wp2_with fail
  refine (C2.out _).mono ?_
  rintro e w' ⟨rfl, rfl⟩
  go_wp2_with fail
  refine (C1.out _).mono ?_
  rintro e w' ⟨rfl, rfl⟩
  go_wp2_with fail
  refine (C3.out _).mono ?_
  rintro e w' ⟨rfl, rfl⟩
  go_wp2
  go_ret
  exact ⟨rfl, rfl⟩
/-- Ldexp downwards: exact, where the answer is a float. -/
theorem ldexp_down {y D u : Nat} (h0 : 4503599627370496 ≤ y) (hy : y < 9218868437227405312) (hu0 : 0 < u) (h : fmag u * 2 ^ D = fmag y) (w : World) :
    Calls Try.prog 69 #[.float .f64 y, .int .i64 (-(D : Int))] w fun e w' => e = .returned (.float .f64 u) ∧ w = w' := by
  obtain ⟨M, k, a1, a2, a3, a4⟩ := fmag_split h0
  have hu1 := fmag_pos.2 hu0
  have huy : u ≤ y := by
    rcases Nat.lt_or_ge y u with h1 | h1
    · have h2 := fmag_step h1
      have h3 : fmag u * 1 ≤ fmag u * 2 ^ D := Nat.mul_le_mul_left _ (Nat.two_pow_pos D)
      omega
    · exact h1
  by_cases hDk : D ≤ k
  · refine ldexp_down_n y u a1 a2 a3 hy hDk ?_ w
    refine fmag_inj ?_
    rw [fmag_make _ _ a1 a2]
    refine (pow_cancel (x := M) (a := k - D) (b := D) (y := fmag u) ?_).symm
    rw [show k - D + D = k by omega, ← a4, h]
  · obtain ⟨j, rfl⟩ : ∃ j, D = k + j := ⟨D - k, by omega⟩
    have hM : fmag u * 2 ^ j = M := by
      refine pow_cancel (x := fmag u) (a := j) (b := k) (y := M) ?_
      rw [Nat.add_comm j k, h, a4]
    have hj : j < 53 := by
      have h3 : 1 * 2 ^ j ≤ fmag u * 2 ^ j := Nat.mul_le_mul_right _ hu1
      have h6 : 2 ^ j < 2 ^ 53 := by have : (2 : Nat) ^ 53 = 9007199254740992 := rfl; omega
      exact (Nat.pow_lt_pow_iff_right (a := 2) (by omega)).1 h6
    refine ldexp_down_d y ((k + 53 - (k + j)) * 4503599627370496 + M) u a1 a2 a3 hy (by omega) (by omega) rfl ?_ w
    obtain ⟨J, hJ⟩ : ∃ J : Nat, J = 969 := ⟨_, rfl⟩
    obtain ⟨L, hL⟩ : ∃ L : Nat, L = 1074 := ⟨_, rfl⟩
    have e1 := fmag_make 4503599627370496 J (by omega) (by omega)
    rw [show J * 4503599627370496 + 4503599627370496 = 4368491638549381120 by rw [hJ]] at e1
    refine mul_exact (K := L) (by omega) (by omega) (by omega) hL ?_
    rw [e1, fmag_make _ _ a1 a2, ← hM, show (4503599627370496 : Nat) = 2 ^ 52 from rfl, ← Nat.pow_add, Nat.mul_comm, Nat.mul_assoc, Nat.mul_assoc, ← Nat.pow_add, ← Nat.pow_add, show j + (k + 53 - (k + j) + (52 + J)) = L by omega]
theorem Ldexp_down {y D u : Nat} (h0 : 4503599627370496 ≤ y) (hy : y < 9218868437227405312) (hu0 : 0 < u) (h : fmag u * 2 ^ D = fmag y) (w : World) :
    Calls Try.prog 40 #[.float .f64 y, .int .i64 (-(D : Int))] w fun e w' => e = .returned (.float .f64 u) ∧ w = w' := by
  have C := Lib.hid (ldexp_down h0 hy hu0 h w)
  obtain ⟨X, hX⟩ : ∃ X, -(D : Int) = X := ⟨_, rfl⟩
  rw [hX] at C ⊢
  clear h0 hy hu0 h hX
  go_enter Try.func40, Try.ntmps40
  go_wp2_with fail
  refine C.out.mono ?_
  rintro e w' ⟨rfl, rfl⟩
  go_wp2
  go_ret
  exact ⟨rfl, rfl⟩
/-- Ldexp of a whole number of few bits, where the answer is a float. -/
theorem Ldexp_fl {N u : Nat} {e : Int} (hN0 : 0 < N) (hN : N < 9007199254740992) (hu : u < 9218868437227405312) (he : -1074 ≤ e) (h : N * 2 ^ (e + 1074).toNat = fmag u) (w : World) :
    Calls Try.prog 40 #[.float .f64 (fl N), .int .i64 e] w fun r w' => r = .returned (.float .f64 u) ∧ w = w' := by
  obtain ⟨K, hK⟩ : ∃ K : Nat, K = 1074 := ⟨_, rfl⟩
  obtain ⟨f1, f2⟩ := fmag_fl hN hK
  have f3 := (fl_pos hN0 (Nat.lt_trans hN (by decide))).1
  have hu0 : 0 < u := by
    refine fmag_pos.1 ?_
    rw [← h]
    exact Nat.mul_pos hN0 (Nat.two_pow_pos _)
  by_cases hs : 0 ≤ e
  · obtain ⟨D, rfl⟩ : ∃ D : Nat, e = D := ⟨e.toNat, by omega⟩
    refine Ldexp_rep (by omega) f2 hu ?_ w
    rw [← h, f1, show ((D : Int) + 1074).toNat = K + D by omega, Nat.pow_add, Nat.mul_assoc]
  · obtain ⟨D, rfl⟩ : ∃ D : Nat, e = -(D : Int) := ⟨(-e).toNat, by omega⟩
    refine Ldexp_down f3 f2 hu0 ?_ w
    rw [← h, f1, Nat.mul_assoc, ← Nat.pow_add, show (-(D : Int) + 1074).toNat + D = K by omega]

end Go.Proofs.Ytbinpcoaghpcdaa
