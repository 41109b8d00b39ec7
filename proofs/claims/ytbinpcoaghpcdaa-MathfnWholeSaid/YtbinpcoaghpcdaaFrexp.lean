/-
  Contracts of math.Frexp and math.Ldexp, for finite floats above 0.
-/
import Derived.Test.YtbinpcoaghpcdaaSmall
import Derived.Test.YtbinpcoaghpcdaaExact
import Derived.Test.YtbinpcoaghpcdaaLdexp
namespace Go.Proofs.Ytbinpcoaghpcdaa
open Go.RowKit
/-- A finite float above 0 as a whole significand and a power; z: its word, made normal. -/
structure NF (r z c M k : Nat) : Prop where
  lo : 4503599627370496 ≤ M
  hi : M < 9007199254740992
  hz : z = k * 4503599627370496 + M
  hc : fmag r * 2 ^ c = M * 2 ^ k
  top : z < 9218868437227405312
  way : (c = 0 ∧ z = r) ∨ (c = 52 ∧ r < 4503599627370496 ∧ Ieee.double.mul r 4841369599423283200 = some z)
theorem nf_of {r : Nat} (h0 : 0 < r) (hr : r < 9218868437227405312) : ∃ z c M k, NF r z c M k := by
  rcases Nat.lt_or_ge r 4503599627370496 with h | h
  · have hf := fmag_low (r := r) (by omega)
    obtain ⟨z, hz⟩ := rep_of (N := r * 2 ^ 52) (M := r) (j := 52) rfl (by omega)
    have h1 : fmag z < fmag 4845873199050653696 := by
      obtain ⟨K, hK⟩ : ∃ K : Nat, K = 1075 := ⟨_, rfl⟩
      have e1 := fmag_make 4503599627370496 K (by omega) (by omega)
      rw [show K * 4503599627370496 + 4503599627370496 = 4845873199050653696 by rw [hK]] at e1
      rw [hz, e1]
      have h2 : r * 2 ^ 52 < 4503599627370496 * 2 ^ 52 := Nat.mul_lt_mul_of_pos_right h (Nat.two_pow_pos 52)
      have h3 : 4503599627370496 * 2 ^ 52 ≤ 4503599627370496 * 2 ^ K := Nat.mul_le_mul_left _ (Nat.pow_le_pow_right (by omega) (by omega))
      exact Nat.lt_of_lt_of_le h2 h3
    have hzt := fmag_lt.1 h1
    have hzl : 4503599627370496 ≤ z := by
      rcases Nat.lt_or_ge z 4503599627370496 with h4 | h4
      · have h5 := fmag_low (r := z) (by omega)
        have h6 : 1 * 2 ^ 52 ≤ r * 2 ^ 52 := Nat.mul_le_mul_right _ h0
        omega
      · exact h4
    obtain ⟨M, k, a1, a2, a3, a4⟩ := fmag_split hzl
    refine ⟨z, 52, M, k, a1, a2, a3, by rw [hf, ← hz, a4], by omega, .inr ⟨rfl, h, ?_⟩⟩
    obtain ⟨K, hK⟩ : ∃ K : Nat, K = 1074 := ⟨_, rfl⟩
    refine mul_exact (K := K) hr (by omega) (by omega) hK ?_
    have e1 := fmag_make 4503599627370496 K (by omega) (by omega)
    rw [show K * 4503599627370496 + 4503599627370496 = 4841369599423283200 by rw [hK]] at e1
    rw [e1, hz, hf, show (4503599627370496 : Nat) = 2 ^ 52 from rfl, ← Nat.mul_assoc]
  · obtain ⟨M, k, a1, a2, a3, a4⟩ := fmag_split h
    exact ⟨r, 0, M, k, a1, a2, a3, by rw [Nat.pow_zero, Nat.mul_one, a4], hr, .inl ⟨rfl, rfl⟩⟩
theorem normalize_sub (r z : Nat) (w : World) (h1 : r < 4503599627370496) (hm : Ieee.double.mul r 4841369599423283200 = some z) : Calls Try.prog 83 #[.float .f64 r] w fun e w' => e = .returned (.tuple #[.float .f64 z, .int .i64 (-52)]) ∧ w = w' := by
  have C1 := Lib.hid (fun W => abs_any r W (by omega))
  rw [(pos_rung (x := r) (by omega)).1] at C1
  have h := ord_lt (x := r) (y := 4503599627370496) (by omega) (by omega)
  rw [decide_eq_true h1] at h
  have h11 : (binOp BinOp.mul 22 (.float .f64 r) (.float .f64 4841369599423283200)).run Try.prog w = .ok (.float .f64 z) w := run_float_arith _ _ _ _ _ _ _ hm
  clear h1 hm
  go_enter Try.func83, Try.ntmps83
  go_wp2_with fail
  refine (C1.out _).mono ?_
  rintro e w' ⟨rfl, rfl⟩
  go_wp2
  go_ret2
  exact ⟨rfl, rfl⟩
theorem normalize_nf {r z c M k : Nat} (h : NF r z c M k) (w : World) : Calls Try.prog 83 #[.float .f64 r] w fun e w' => e = .returned (.tuple #[.float .f64 z, .int .i64 (-(c : Int))]) ∧ w = w' := by
  rcases h.way with ⟨rfl, rfl⟩ | ⟨rfl, h1, h2⟩
  · exact normalize_any z w (by have := h.hz; have := h.lo; omega) h.top
  · exact normalize_sub r z w h1 h2
theorem or_half (t : Nat) (ht : t < 4503599627370496) : bits BinOp.or IntKind.u64 (t : Int) 4602678819172646912 = ((t + 4602678819172646912 : Nat) : Int) := or_exp t 1022 ht (by omega)
theorem and_2047u (q : Nat) (hq : q < 2048) : bits BinOp.and IntKind.u64 (q : Int) 2047 = (q : Int) := by
  show IntKind.u64.wrap ((BitVec.ofInt 64 (q : Int) &&& BitVec.ofInt 64 2047).toNat : Int) = _
  have e1 : (BitVec.ofInt 64 (q : Int)) = BitVec.ofNat 64 q := by rw [BitVec.ofInt_natCast]
  have e2 : (BitVec.ofInt 64 2047) = BitVec.ofNat 64 (2 ^ 11 - 1) := by decide
  rw [e1, e2, BitVec.toNat_and, BitVec.toNat_ofNat, BitVec.toNat_ofNat, Nat.mod_eq_of_lt (by omega : q < 2 ^ 64), Nat.mod_eq_of_lt (by omega : 2 ^ 11 - 1 < 2 ^ 64), Nat.and_two_pow_sub_one_eq_mod, Nat.mod_eq_of_lt hq, IntKind.wrap_u64]
  omega
set_option maxHeartbeats 1000000 in
theorem frexp_any {r z c M k : Nat} (h0 : 0 < r) (hr : r < 9218868437227405312) (h : NF r z c M k) (w : World) : Calls Try.prog 73 #[.float .f64 r] w fun e w' => e = .returned (.tuple #[.float .f64 (4598175219545276416 + M), .int .i64 ((k : Int) - 1021 - (c : Int))]) ∧ w = w' := by
  obtain ⟨p1, p2, p3⟩ := pos_rung (x := r) (by omega)
  have C1 := Lib.hid (fun W => isNaN_any r W)
  have C2 := Lib.hid (fun W => isInf0_any r W (by omega))
  rw [show fnan r = false from by unfold fnan; rw [p1]; exact decide_eq_false (by omega)] at C1
  rw [show finf r = false from by unfold finf; rw [p1]; exact decide_eq_false (by omega)] at C2
  have C3 := Lib.hid (fun W => normalize_nf h W)
  have h3 := ord_zero r
  rw [p1, decide_eq_false (by omega)] at h3
  have a1 := h.lo
  have a2 := h.hi
  have a3 := h.hz
  have a4 := h.top
  have a5 : c ≤ 52 := by rcases h.way with ⟨h1, _⟩ | ⟨h1, _⟩ <;> omega
  have h5 := f64bits_run z w
  have h6 := not_exp z (by omega)
  obtain ⟨t, ht⟩ : ∃ t, M = 4503599627370496 + t := ⟨M - 4503599627370496, by omega⟩
  rw [show z % 4503599627370496 = t by omega] at h6
  have h7 := and_2047u (k + 1) (by omega)
  have h8 := or_half t (by omega)
  have h9 := f64from_run (t + 4602678819172646912) w
  rw [show 4598175219545276416 + M = t + 4602678819172646912 by omega]
  have k1 : (z : Int) / 4503599627370496 = ((k + 1 : Nat) : Int) := by omega
  have k2 : IntKind.i64.wrap ((k + 1 : Nat) : Int) = ((k + 1 : Nat) : Int) := IntWalk.i64_in _ (by omega)
  have k3 : IntKind.i64.wrap (((k + 1 : Nat) : Int) - 1023) = ((k + 1 : Nat) : Int) - 1023 := IntWalk.i64_in _ (by omega)
  have k4 : IntKind.i64.wrap (((k + 1 : Nat) : Int) - 1023 + 1) = ((k + 1 : Nat) : Int) - 1023 + 1 := IntWalk.i64_in _ (by omega)
  have k5 : IntKind.i64.wrap (-(c : Int) + (((k + 1 : Nat) : Int) - 1023 + 1)) = (k : Int) - 1021 - (c : Int) := by rw [IntWalk.i64_in _ (by omega)]; omega
  obtain ⟨q, hq⟩ : ∃ q, k + 1 = q := ⟨_, rfl⟩
  obtain ⟨y, hy⟩ : ∃ y, t + 4602678819172646912 = y := ⟨_, rfl⟩
  obtain ⟨E, hE⟩ : ∃ E, (k : Int) - 1021 - (c : Int) = E := ⟨_, rfl⟩
  rw [hy] at h8 h9 ⊢
  rw [hq] at h7 k1 k2 k3 k4 k5
  rw [hE] at k5 ⊢
  clear h0 hr h p1 p2 p3 a1 a2 a3 a4 a5 ht hq hy hE
  go_enter Try.func73, Try.ntmps73
  go_wp2_with fail
  refine (C2.out _).mono ?_
  rintro e w' ⟨rfl, rfl⟩
  go_wp2_with fail
  refine (C1.out _).mono ?_
  rintro e w' ⟨rfl, rfl⟩
  go_wp2_with fail
  refine (C3.out _).mono ?_
  rintro e w' ⟨rfl, rfl⟩
  go_wp2
  go_ret2
  exact ⟨rfl, rfl⟩
theorem Frexp_any {r z c M k : Nat} (h0 : 0 < r) (hr : r < 9218868437227405312) (h : NF r z c M k) (w : World) : Calls Try.prog 45 #[.float .f64 r] w fun e w' => e = .returned (.tuple #[.float .f64 (4598175219545276416 + M), .int .i64 ((k : Int) - 1021 - (c : Int))]) ∧ w = w' := by
  have C := Lib.hid (frexp_any h0 hr h w)
  clear h0 hr h
  go_enter Try.func45, Try.ntmps45
  go_wp2_with fail
  refine C.out.mono ?_
  rintro e w' ⟨rfl, rfl⟩
  go_wp2
  go_ret2
  exact ⟨rfl, rfl⟩

end Go.Proofs.Ytbinpcoaghpcdaa
