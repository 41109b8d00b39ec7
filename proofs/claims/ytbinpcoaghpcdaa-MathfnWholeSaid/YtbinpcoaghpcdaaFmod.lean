/-
  Contracts of math.Ldexp (finite floats above 0, where the answer is a float) and of math.Mod.
-/
import Derived.Test.YtbinpcoaghpcdaaFrexp
namespace Go.Proofs.Ytbinpcoaghpcdaa
open Go.RowKit
theorem fmag_up {y D : Nat} (h : 4503599627370496 ≤ y) : fmag (y + D * 4503599627370496) = fmag y * 2 ^ D := by
  obtain ⟨M, d, a1, a2, a3, a4⟩ := fmag_split h
  rw [a4, a3, show d * 4503599627370496 + M + D * 4503599627370496 = (d + D) * 4503599627370496 + M by omega, fmag_make _ _ a1 a2, Nat.pow_add, Nat.mul_assoc]
set_option maxHeartbeats 1000000 in
theorem ldexp_sub_n {z M k D u : Nat} (y : Nat) (hy0 : 0 < y) (hy : y < 4503599627370496) (hm : Ieee.double.mul y 4841369599423283200 = some z) (a1 : 4503599627370496 ≤ M) (a2 : M < 9007199254740992) (a3 : z = k * 4503599627370496 + M) (a4 : z < 9218868437227405312) (hD : D < 1048576) (hd : 52 ≤ D + k) (ht : D + k < 2098) (hu : u = (D + k - 52) * 4503599627370496 + M) (w : World) :
    Calls Try.prog 69 #[.float .f64 y, .int .i64 (D : Nat)] w fun e w' => e = .returned (.float .f64 u) ∧ w = w' := by
  obtain ⟨p1, p2, p3⟩ := pos_rung (x := y) (by omega)
  have C1 := Lib.hid (fun W => isNaN_any y W)
  have C2 := Lib.hid (fun W => isInf0_any y W (by omega))
  rw [show fnan y = false from by unfold fnan; rw [p1]; exact decide_eq_false (by omega)] at C1
  rw [show finf y = false from by unfold finf; rw [p1]; exact decide_eq_false (by omega)] at C2
  have C3 := Lib.hid (fun W => normalize_sub y z W hy hm)
  have h3 := ord_zero y
  rw [p1, decide_eq_false (by omega)] at h3
  have h5 := f64bits_run z w
  have h6 := not_exp z (by omega)
  obtain ⟨t, ht2⟩ : ∃ t, M = 4503599627370496 + t := ⟨M - 4503599627370496, by omega⟩
  rw [show z % 4503599627370496 = t by omega] at h6
  have h7 := and_2047 (k + 1) (by omega)
  obtain ⟨Q, hQ⟩ : ∃ Q, D + k = Q + 51 := ⟨D + k - 51, by omega⟩
  have h8 := or_exp t Q (by omega) (by omega)
  have e8 : t + Q * 4503599627370496 = u := by omega
  rw [e8] at h8
  have h9 := f64from_run u w
  have h10 := one_mul (y := u) (by omega) (by omega)
  have h11 : (binOp BinOp.mul 22 (.float .f64 4607182418800017408) (.float .f64 u)).run Try.prog w = .ok (.float .f64 u) w := run_float_arith _ _ _ _ _ _ _ h10
  have k1 : (z : Int) / 4503599627370496 = ((k + 1 : Nat) : Int) := by omega
  have k2 : IntKind.i64.wrap ((k + 1 : Nat) : Int) = ((k + 1 : Nat) : Int) := IntWalk.i64_in _ (by omega)
  have k3 : IntKind.i64.wrap (((k + 1 : Nat) : Int) - 1023) = (k : Int) - 1022 := by rw [IntWalk.i64_in _ (by omega)]; omega
  have k4 : IntKind.i64.wrap ((D : Int) + -52) = (D : Int) - 52 := by rw [IntWalk.i64_in _ (by omega)]; omega
  have k5 : IntKind.i64.wrap ((D : Int) - 52 + ((k : Int) - 1022)) = (Q : Int) - 1023 := by rw [IntWalk.i64_in _ (by omega)]; omega
  have k6 : IntKind.i64.wrap ((Q : Int) - 1023 + 1023) = (Q : Int) := by rw [IntWalk.i64_in _ (by omega)]; omega
  have k7 : IntKind.u64.wrap (Q : Int) = (Q : Int) := by rw [IntKind.wrap_u64]; omega
  have k8 : IntKind.u64.wrap ((Q : Int) * 4503599627370496) = ((Q * 4503599627370496 : Nat) : Int) := by rw [IntKind.wrap_u64]; omega
  have t1 : decide ((Q : Int) - 1023 < -1075) = false := decide_eq_false (by omega)
  have t2 : decide (1023 < (Q : Int) - 1023) = false := decide_eq_false (by omega)
  have t3 : decide ((Q : Int) - 1023 < -1022) = false := decide_eq_false (by omega)
  obtain ⟨q, hq⟩ : ∃ q, k + 1 = q := ⟨_, rfl⟩
  obtain ⟨X1, hX1⟩ : ∃ X1, (k : Int) - 1022 = X1 := ⟨_, rfl⟩
  obtain ⟨X2, hX2⟩ : ∃ X2, (D : Int) - 52 = X2 := ⟨_, rfl⟩
  obtain ⟨X3, hX3⟩ : ∃ X3, (Q : Int) - 1023 = X3 := ⟨_, rfl⟩
  rw [hq] at h7 k1 k2 k3
  rw [hX1] at k3 k5
  rw [hX2] at k4 k5
  rw [hX3] at k5 k6 t1 t2 t3
  rw [← k8] at h8
  clear hy0 hy hm a1 a2 a3 a4 hD hd ht hu p1 p2 p3 ht2 hQ e8 h10 k8 hq hX1 hX2 hX3
  go_enter Try.func69, Try.ntmps69
  go_wp2_with fail
  refine (C2.out _).mono ?_
  rintro e w' ⟨rfl, rfl⟩
  go_wp2_with fail
  refine (C1.out _).mono ?_
  rintro e w' ⟨rfl, rfl⟩
  go_wp2_with fail
  refine (C3.out _).mono ?_
  rintro e w' ⟨rfl, rfl⟩
  go_wp2
  go_ret
  exact ⟨rfl, rfl⟩
set_option maxHeartbeats 1000000 in
theorem ldexp_sub_d {z M k D u r : Nat} (y : Nat) (hy0 : 0 < y) (hy : y < 4503599627370496) (hm : Ieee.double.mul y 4841369599423283200 = some z) (a1 : 4503599627370496 ≤ M) (a2 : M < 9007199254740992) (a3 : z = k * 4503599627370496 + M) (a4 : z < 9218868437227405312) (hd : D + k < 52) (hu : u = (D + k + 1) * 4503599627370496 + M) (hr : Ieee.double.mul 4368491638549381120 u = some r) (w : World) :
    Calls Try.prog 69 #[.float .f64 y, .int .i64 (D : Nat)] w fun e w' => e = .returned (.float .f64 r) ∧ w = w' := by
  obtain ⟨p1, p2, p3⟩ := pos_rung (x := y) (by omega)
  have C1 := Lib.hid (fun W => isNaN_any y W)
  have C2 := Lib.hid (fun W => isInf0_any y W (by omega))
  rw [show fnan y = false from by unfold fnan; rw [p1]; exact decide_eq_false (by omega)] at C1
  rw [show finf y = false from by unfold finf; rw [p1]; exact decide_eq_false (by omega)] at C2
  have C3 := Lib.hid (fun W => normalize_sub y z W hy hm)
  have h3 := ord_zero y
  rw [p1, decide_eq_false (by omega)] at h3
  have h5 := f64bits_run z w
  have h6 := not_exp z (by omega)
  obtain ⟨t, ht2⟩ : ∃ t, M = 4503599627370496 + t := ⟨M - 4503599627370496, by omega⟩
  rw [show z % 4503599627370496 = t by omega] at h6
  have h7 := and_2047 (k + 1) (by omega)
  obtain ⟨Q, hQ⟩ : ∃ Q, D + k + 2 = Q := ⟨_, rfl⟩
  have h8 := or_exp t Q (by omega) (by omega)
  have e8 : t + Q * 4503599627370496 = u := by omega
  rw [e8] at h8
  have h9 := f64from_run u w
  have h11 : (binOp BinOp.mul 22 (.float .f64 4368491638549381120) (.float .f64 u)).run Try.prog w = .ok (.float .f64 r) w := run_float_arith _ _ _ _ _ _ _ hr
  have k1 : (z : Int) / 4503599627370496 = ((k + 1 : Nat) : Int) := by omega
  have k2 : IntKind.i64.wrap ((k + 1 : Nat) : Int) = ((k + 1 : Nat) : Int) := IntWalk.i64_in _ (by omega)
  have k3 : IntKind.i64.wrap (((k + 1 : Nat) : Int) - 1023) = (k : Int) - 1022 := by rw [IntWalk.i64_in _ (by omega)]; omega
  have k4 : IntKind.i64.wrap ((D : Int) + -52) = (D : Int) - 52 := by rw [IntWalk.i64_in _ (by omega)]; omega
  have k5 : IntKind.i64.wrap ((D : Int) - 52 + ((k : Int) - 1022)) = (Q : Int) - 1076 := by rw [IntWalk.i64_in _ (by omega)]; omega
  have k9 : IntKind.i64.wrap ((Q : Int) - 1076 + 53) = (Q : Int) - 1023 := by rw [IntWalk.i64_in _ (by omega)]; omega
  have k6 : IntKind.i64.wrap ((Q : Int) - 1023 + 1023) = (Q : Int) := by rw [IntWalk.i64_in _ (by omega)]; omega
  have k7 : IntKind.u64.wrap (Q : Int) = (Q : Int) := by rw [IntKind.wrap_u64]; omega
  have k8 : IntKind.u64.wrap ((Q : Int) * 4503599627370496) = ((Q * 4503599627370496 : Nat) : Int) := by rw [IntKind.wrap_u64]; omega
  have t1 : decide ((Q : Int) - 1076 < -1075) = false := decide_eq_false (by omega)
  have t2 : decide (1023 < (Q : Int) - 1076) = false := decide_eq_false (by omega)
  have t3 : decide ((Q : Int) - 1076 < -1022) = true := decide_eq_true (by omega)
  obtain ⟨q, hq⟩ : ∃ q, k + 1 = q := ⟨_, rfl⟩
  obtain ⟨X1, hX1⟩ : ∃ X1, (k : Int) - 1022 = X1 := ⟨_, rfl⟩
  obtain ⟨X2, hX2⟩ : ∃ X2, (D : Int) - 52 = X2 := ⟨_, rfl⟩
  obtain ⟨X3, hX3⟩ : ∃ X3, (Q : Int) - 1076 = X3 := ⟨_, rfl⟩
  obtain ⟨X4, hX4⟩ : ∃ X4, (Q : Int) - 1023 = X4 := ⟨_, rfl⟩
  rw [hq] at h7 k1 k2 k3
  rw [hX1] at k3 k5
  rw [hX2] at k4 k5
  rw [hX3] at k5 k9 t1 t2 t3
  rw [hX4] at k9 k6
  rw [← k8] at h8
  clear hy0 hy hm a1 a2 a3 a4 hd hu hr p1 p2 p3 ht2 hQ e8 k8 hq hX1 hX2 hX3 hX4
  go_enter Try.func69, Try.ntmps69
  go_wp2_with fail
  refine (C2.out _).mono ?_
  rintro e w' ⟨rfl, rfl⟩
  go_wp2_with fail
  refine (C1.out _).mono ?_
  rintro e w' ⟨rfl, rfl⟩
  go_wp2_with fail
  refine (C3.out _).mono ?_
  rintro e w' ⟨rfl, rfl⟩
  go_wp2
  go_ret
  exact ⟨rfl, rfl⟩
theorem fmag_inf {r : Nat} (h : r < 9218868437227405312) (K : Nat) (hK : K = 2098) : fmag r < 2 ^ K := by
  obtain ⟨J, hJ⟩ : ∃ J : Nat, J = 2046 := ⟨_, rfl⟩
  have e1 := fmag_make 4503599627370496 J (by omega) (by omega)
  rw [show J * 4503599627370496 + 4503599627370496 = 9218868437227405312 by rw [hJ]] at e1
  have := fmag_step h
  rw [e1, show (4503599627370496 : Nat) = 2 ^ 52 from rfl, ← Nat.pow_add, show 52 + J = K by omega] at this
  exact this
/-- Ldexp: exact, where the answer is a float. -/
theorem ldexp_rep {y D u : Nat} (h0 : 0 < y) (hy : y < 9218868437227405312) (hu : u < 9218868437227405312) (h : fmag u = fmag y * 2 ^ D) (w : World) :
    Calls Try.prog 69 #[.float .f64 y, .int .i64 (D : Nat)] w fun e w' => e = .returned (.float .f64 u) ∧ w = w' := by
  obtain ⟨K, hK⟩ : ∃ K : Nat, K = 2098 := ⟨_, rfl⟩
  have hDK : D < K := by
    have h1 := fmag_inf hu K hK
    have h2 := fmag_pos.2 h0
    have h3 : 1 * 2 ^ D ≤ fmag y * 2 ^ D := Nat.mul_le_mul_right _ h2
    exact (Nat.pow_lt_pow_iff_right (a := 2) (by omega)).1 (by omega)
  by_cases hn : 4503599627370496 ≤ y
  · have h1 := fmag_up (D := D) hn
    rw [← h] at h1
    have h2 := fmag_inj h1
    have h3 := ldexpl_any y D w hn hy (by omega)
    have h4 : scl y D = u := by unfold scl; rw [if_pos (by omega)]; exact h2
    rw [h4] at h3
    exact h3
  · obtain ⟨z, c, M, k, hnf⟩ := nf_of h0 hy
    rcases hnf.way with ⟨_, h1⟩ | ⟨rfl, _, h1⟩
    · have := hnf.hz; have := hnf.lo; omega
    · have a1 := hnf.lo
      have a2 := hnf.hi
      have a3 := hnf.hz
      have a4 := hnf.top
      have a5 := hnf.hc
      have hU : fmag u * 2 ^ 52 = M * 2 ^ (D + k) := by
        rw [h, Nat.mul_assoc, Nat.mul_comm (2 ^ D), ← Nat.mul_assoc, a5, Nat.mul_assoc, ← Nat.pow_add, Nat.add_comm k D]
      by_cases hd : 52 ≤ D + k
      · obtain ⟨d, hd2⟩ : ∃ d, D + k = d + 52 := ⟨D + k - 52, by omega⟩
        rw [hd2] at hU
        have h2 : M * 2 ^ d = fmag u := pow_cancel (x := M) (y := fmag u) hU.symm
        rw [← fmag_make M d a1 a2] at h2
        have h3 := fmag_inj h2
        exact ldexp_sub_n y h0 (by omega) h1 a1 a2 a3 a4 (by omega) hd (by omega) (by rw [show D + k - 52 = d by omega]; exact h3.symm) w
      · refine ldexp_sub_d (u := (D + k + 1) * 4503599627370496 + M) y h0 (by omega) h1 a1 a2 a3 a4 (by omega) rfl ?_ w
        obtain ⟨J, hJ⟩ : ∃ J : Nat, J = 969 := ⟨_, rfl⟩
        obtain ⟨L, hL⟩ : ∃ L : Nat, L = 1074 := ⟨_, rfl⟩
        have e1 := fmag_make 4503599627370496 J (by omega) (by omega)
        rw [show J * 4503599627370496 + 4503599627370496 = 4368491638549381120 by rw [hJ]] at e1
        refine mul_exact (K := L) (by omega) (by omega) hu hL ?_
        have h2 : fmag u * 2 ^ L = fmag u * 2 ^ 52 * 2 ^ (J + 53) := by rw [Nat.mul_assoc, ← Nat.pow_add, show 52 + (J + 53) = L by omega]
        rw [e1, fmag_make _ _ a1 a2, h2, hU, show (4503599627370496 : Nat) = 2 ^ 52 from rfl, ← Nat.pow_add, Nat.mul_left_comm, ← Nat.pow_add, Nat.mul_assoc, ← Nat.pow_add, show 52 + J + (D + k + 1) = D + k + (J + 53) by omega]
theorem Ldexp_rep {y D u : Nat} (h0 : 0 < y) (hy : y < 9218868437227405312) (hu : u < 9218868437227405312) (h : fmag u = fmag y * 2 ^ D) (w : World) :
    Calls Try.prog 40 #[.float .f64 y, .int .i64 (D : Nat)] w fun e w' => e = .returned (.float .f64 u) ∧ w = w' := by
  have C := Lib.hid (ldexp_rep h0 hy hu h w)
  clear h0 hy hu h
  go_enter Try.func40, Try.ntmps40
  go_wp2_with fail
  refine C.out.mono ?_
  rintro e w' ⟨rfl, rfl⟩
  go_wp2
  go_ret
  exact ⟨rfl, rfl⟩

end Go.Proofs.Ytbinpcoaghpcdaa
