/-
  Contracts of math.Inf and math.Ldexp, for doubles that stand for whole numbers.
-/
import Derived.Test.YtbinpcoaghpcdaaParts2
import Derived.Test.YtbinpcoaghpcdaaNear2
namespace Go.Proofs.Ytbinpcoaghpcdaa
open Go.RowKit
theorem inf1_any (w : World) : Calls Try.prog 37 #[.int .i64 1] w fun e w' => e = .returned (.float .f64 9218868437227405312) ∧ w = w' := by
  have h2 : (callFunc 34 #[.int .u64 9218868437227405312]).run Try.prog w = .ok (.value (.float .f64 9218868437227405312)) w := f64from_run 9218868437227405312 w
  go_enter Try.func37, Try.ntmps37
  go_wp2
  go_ret
  exact ⟨by rfl, rfl⟩
theorem normalize_any (x : Nat) (w : World) (h1 : 4503599627370496 ≤ x) (h2 : x < 9218868437227405312) : Calls Try.prog 83 #[.float .f64 x] w fun e w' => e = .returned (.tuple #[.float .f64 x, .int .i64 0]) ∧ w = w' := by
  have C1 := Lib.hid (fun W => abs_any x W (by omega))
  rw [(pos_rung (x := x) (by omega)).1] at C1
  have h := ord_lt (x := x) (y := 4503599627370496) (by omega) (by omega)
  rw [decide_eq_false (by omega)] at h
  clear h1 h2
  go_enter Try.func83, Try.ntmps83
  go_wp2_with fail
  refine (C1.out _).mono ?_
  rintro e w' ⟨rfl, rfl⟩
  go_wp2
  go_ret2
  exact ⟨rfl, rfl⟩
theorem and_top {x : Nat} (hx : x < 9223372036854775808) : x &&& 2 ^ 63 = 0 := by
  apply Nat.eq_of_testBit_eq
  intro i
  rw [Nat.testBit_and, Nat.testBit_two_pow, Nat.zero_testBit]
  by_cases h : 63 = i
  · subst h
    rw [Nat.testBit_lt_two_pow (show x < 2 ^ 63 from hx)]; rfl
  · rw [decide_eq_false h, Bool.and_false]
theorem not_exp (x : Nat) (hx : x < 9223372036854775808) : bits BinOp.andNot IntKind.u64 (x : Int) 9218868437227405312 = ((x % 4503599627370496 : Nat) : Int) := by
  show IntKind.u64.wrap ((BitVec.ofInt 64 (x : Int) &&& ~~~ BitVec.ofInt 64 9218868437227405312).toNat : Int) = _
  have e1 : (BitVec.ofInt 64 (x : Int)) = BitVec.ofNat 64 x := by rw [BitVec.ofInt_natCast]
  have e2 : (~~~ BitVec.ofInt 64 9218868437227405312) = BitVec.ofNat 64 (2 ^ 63 ||| (2 ^ 52 - 1)) := by decide
  rw [e1, e2, BitVec.toNat_and, BitVec.toNat_ofNat, BitVec.toNat_ofNat, Nat.mod_eq_of_lt (by omega : x < 2 ^ 64), Nat.mod_eq_of_lt (by decide : 2 ^ 63 ||| (2 ^ 52 - 1) < 2 ^ 64), Nat.and_or_distrib_left, Nat.and_two_pow_sub_one_eq_mod, and_top hx, Nat.zero_or, IntKind.wrap_u64]
  omega
theorem and_2047 (q : Nat) (hq : q < 2048) : bits BinOp.and IntKind.i64 (q : Int) 2047 = (q : Int) := by
  show IntKind.i64.wrap ((BitVec.ofInt 64 (q : Int) &&& BitVec.ofInt 64 2047).toNat : Int) = _
  have e1 : (BitVec.ofInt 64 (q : Int)) = BitVec.ofNat 64 q := by rw [BitVec.ofInt_natCast]
  have e2 : (BitVec.ofInt 64 2047) = BitVec.ofNat 64 (2 ^ 11 - 1) := by decide
  rw [e1, e2, BitVec.toNat_and, BitVec.toNat_ofNat, BitVec.toNat_ofNat, Nat.mod_eq_of_lt (by omega : q < 2 ^ 64), Nat.mod_eq_of_lt (by omega : 2 ^ 11 - 1 < 2 ^ 64), Nat.and_two_pow_sub_one_eq_mod, Nat.mod_eq_of_lt hq, IntWalk.i64_in _ (by omega)]
theorem or_exp (t q : Nat) (ht : t < 4503599627370496) (hq : q < 2048) : bits BinOp.or IntKind.u64 (t : Int) ((q * 4503599627370496 : Nat) : Int) = ((t + q * 4503599627370496 : Nat) : Int) := by
  rw [or_u64 t (q * 4503599627370496) (by omega) (by omega)]
  have := Nat.two_pow_add_eq_or_of_lt (i := 52) (b := t) ht q
  rw [Nat.or_comm, show q * 4503599627370496 = 2 ^ 52 * q by rw [Nat.mul_comm], ← this, Nat.add_comm]
set_option maxHeartbeats 1000000 in
theorem ldexp_zero (b : Int) (w : World) : Calls Try.prog 40 #[.float .f64 0, .int .i64 b] w fun e w' => e = .returned (.float .f64 0) ∧ w = w' := by
  have h : (FloatKind.f64.format.order 0 0 == some .eq) = true := by decide
  have C : Calls Try.prog 69 #[.float .f64 0, .int .i64 b] w fun e w' => e = .returned (.float .f64 0) ∧ w = w' := by
    go_enter Try.func69, Try.ntmps69
    go_wp2
    go_ret
    exact ⟨rfl, rfl⟩
  have C := Lib.hid C
  clear h
  go_enter Try.func40, Try.ntmps40
  go_wp2_with fail
  refine C.out.mono ?_
  rintro e w' ⟨rfl, rfl⟩
  go_wp2
  go_ret
  exact ⟨rfl, rfl⟩
set_option maxHeartbeats 1000000 in
theorem ldexpl_any (x b : Nat) (w : World) (h1 : 4503599627370496 ≤ x) (h2 : x < 9218868437227405312) (hb : b < 1048576) : Calls Try.prog 69 #[.float .f64 x, .int .i64 b] w fun e w' => e = .returned (.float .f64 (scl x b)) ∧ w = w' := by
  obtain ⟨p1, p2, p3⟩ := pos_rung (x := x) (by omega)
  have C1 := Lib.hid (fun W => isNaN_any x W)
  have C2 := Lib.hid (fun W => isInf0_any x W (by omega))
  rw [show fnan x = false from by unfold fnan; rw [p1]; exact decide_eq_false (by omega)] at C1
  rw [show finf x = false from by unfold finf; rw [p1]; exact decide_eq_false (by omega)] at C2
  have C3 := Lib.hid (fun W => normalize_any x W h1 h2)
  have C4 := Lib.hid (fun W => inf1_any W)
  have h3 := ord_zero x
  rw [p1, decide_eq_false (by omega)] at h3
  have h4 := ord_below x
  rw [p2, Bool.false_and, Bool.and_false] at h4
  have h5 := f64bits_run x w
  have h6 := not_exp x (by omega)
  unfold scl
  obtain ⟨q, hq⟩ : ∃ q, x / 4503599627370496 = q := ⟨_, rfl⟩
  obtain ⟨t, ht⟩ : ∃ t, x % 4503599627370496 = t := ⟨_, rfl⟩
  rw [ht] at h6
  rw [hq]
  have h7 := and_2047 q (by omega)
  have k1 : (x : Int) / 4503599627370496 = (q : Int) := by omega
  have k2 : IntKind.i64.wrap (q : Int) = (q : Int) := IntWalk.i64_in _ (by omega)
  have k3 : IntKind.i64.wrap ((q : Int) - 1023) = (q : Int) - 1023 := IntWalk.i64_in _ (by omega)
  have k4 : IntKind.i64.wrap ((b : Int) + ((q : Int) - 1023)) = (b : Int) + ((q : Int) - 1023) := IntWalk.i64_in _ (by omega)
  have k5 : IntKind.i64.wrap (b : Int) = (b : Int) := IntWalk.i64_in _ (by omega)
  have t1 : decide ((b : Int) + ((q : Int) - 1023) < -1075) = false := decide_eq_false (by omega)
  by_cases hlt : q + b < 2047
  · rw [if_pos hlt]
    have h8 := or_exp t (b + q) (by omega) (by omega)
    have h9 := f64from_run (t + (b + q) * 4503599627370496) w
    have h10 := one_mul (y := t + (b + q) * 4503599627370496) (by omega) (by omega)
    have h11 : (binOp BinOp.mul 22 (.float .f64 4607182418800017408) (.float .f64 (t + (b + q) * 4503599627370496))).run Try.prog w = .ok (.float .f64 (t + (b + q) * 4503599627370496)) w := run_float_arith _ _ _ _ _ _ _ h10
    clear h10
    have t2 : decide (1023 < (b : Int) + ((q : Int) - 1023)) = false := decide_eq_false (by omega)
    have t3 : decide ((b : Int) + ((q : Int) - 1023) < -1022) = false := decide_eq_false (by omega)
    have k6 : IntKind.i64.wrap ((b : Int) + ((q : Int) - 1023) + 1023) = ((b + q : Nat) : Int) := by rw [IntWalk.i64_in _ (by omega)]; omega
    have k7 : IntKind.u64.wrap ((b + q : Nat) : Int) = ((b + q : Nat) : Int) := by rw [IntKind.wrap_u64]; omega
    have hx : x + b * 4503599627370496 = t + (b + q) * 4503599627370496 := by omega
    rw [hx]
    obtain ⟨y, hy⟩ : ∃ y, t + (b + q) * 4503599627370496 = y := ⟨_, rfl⟩
    obtain ⟨z, hz⟩ : ∃ z, b + q = z := ⟨_, rfl⟩
    rw [hy] at h8 h9 h11 ⊢
    rw [hz] at h8 k6 k7
    have k8 : IntKind.u64.wrap ((z : Int) * 4503599627370496) = ((z * 4503599627370496 : Nat) : Int) := by rw [IntKind.wrap_u64]; omega
    rw [← k8] at h8
    clear k8
    clear h1 h2 hb p1 p2 p3 hq ht hlt hx hy hz
    go_enter Try.func69, Try.ntmps69
    go_wp2_with fail
    refine (C2.out _).mono ?_
    rintro e w' ⟨rfl, rfl⟩
    go_wp2_with fail
    refine (C1.out _).mono ?_
    rintro e w' ⟨rfl, rfl⟩
    go_wp2_with fail
    refine (C3.out _).mono ?_
    rintro e w' ⟨rfl, rfl⟩
    go_wp2
    go_ret
    exact ⟨rfl, rfl⟩
  · rw [if_neg hlt]
    have t2 : decide (1023 < (b : Int) + ((q : Int) - 1023)) = true := decide_eq_true (by omega)
    clear h1 h2 hb p1 p2 p3 hq ht hlt h6
    go_enter Try.func69, Try.ntmps69
    go_wp2_with fail
    refine (C2.out _).mono ?_
    rintro e w' ⟨rfl, rfl⟩
    go_wp2_with fail
    refine (C1.out _).mono ?_
    rintro e w' ⟨rfl, rfl⟩
    go_wp2_with fail
    refine (C3.out _).mono ?_
    rintro e w' ⟨rfl, rfl⟩
    go_wp2_with fail
    refine (C4.out _).mono ?_
    rintro e w' ⟨rfl, rfl⟩
    go_wp2
    go_ret
    exact ⟨rfl, rfl⟩
theorem ldexp_any (x b : Nat) (w : World) (h1 : 4503599627370496 ≤ x) (h2 : x < 9218868437227405312) (hb : b < 1048576) : Calls Try.prog 40 #[.float .f64 x, .int .i64 b] w fun e w' => e = .returned (.float .f64 (scl x b)) ∧ w = w' := by
  have C := Lib.hid (ldexpl_any x b w h1 h2 hb)
  clear h1 h2 hb
  go_enter Try.func40, Try.ntmps40
  go_wp2_with fail
  refine C.out.mono ?_
  rintro e w' ⟨rfl, rfl⟩
  go_wp2
  go_ret
  exact ⟨rfl, rfl⟩

end Go.Proofs.Ytbinpcoaghpcdaa
