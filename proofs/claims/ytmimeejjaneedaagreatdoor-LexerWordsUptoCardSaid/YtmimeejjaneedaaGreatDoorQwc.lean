/-
  Merged texts (BF, BG, Nv, Dq, De, Le, Ma, Nk, ZzL, Ep, Esc, Lf, Pa, Nc, Nd, Pb, ZzQ, Enc, Nl, St, Ta, Tb).
-/
import Derived.Test.YtmimeejjaneedaaGreatDoorQwb
import Derived.Lib.RuneBytes
import Derived.Deep.RegionLaw
set_option maxRecDepth 100000
set_option maxHeartbeats 40000000
namespace Go.Proofs.YtmimeejjaneedaaGreatDoor
section
open Go.RowKit
def fnan (x : Nat) : Bool := decide (9218868437227405312 < rung x)
def finf (x : Nat) : Bool := decide (rung x = 9218868437227405312)
theorem ord_self (x : Nat) : (FloatKind.f64.format.order x x != some .eq) = fnan x := by
 unfold fnan
 show (Ieee.double.order x x != some .eq) = _
 by_cases h : 9218868437227405312 < rung x
 ·rw [order_nan (.inl h), decide_eq_true h]; rfl
 ·rw [order_eq (by omega) (by omega), decide_eq_false h]
  have : compare (frank x) (frank x) = .eq := by simp [compare, compareOfLessAndEq]
  rw [this]; rfl
theorem cmp_lt (a b : Int) : (some (compare a b) == some Ordering.lt) = decide (a < b) := by
 simp only [compare, compareOfLessAndEq]
 by_cases h : a < b
 ·simp [h]
 ·by_cases h2 : a = b
  ·simp [h2]
  ·simp [h, h2]
theorem cmp_gt (a b : Int) : (some (compare a b) == some Ordering.gt) = decide (b < a) := by
 simp only [compare, compareOfLessAndEq]
 by_cases h : a < b
 ·simp [h]; omega
 ·by_cases h2 : a = b
  ·simp [h2]
  ·simp [h, h2]; omega
theorem cmp_eq (a b : Int) : (some (compare a b) == some Ordering.eq) = decide (a = b) := by
 simp only [compare, compareOfLessAndEq]
 by_cases h : a < b
 ·simp [h]; omega
 ·by_cases h2 : a = b
  ·simp [h2]
  ·simp [h, h2]
theorem ord_below (x : Nat) : (FloatKind.f64.format.order x 0 == some .lt) = (!fnan x && (fneg x && decide (0 < rung x))) := by
 show (Ieee.double.order x 0 == some .lt) = _
 unfold fnan
 by_cases h : 9218868437227405312 < rung x
 ·rw [order_nan (.inl h), decide_eq_true h]; rfl
 ·rw [order_eq (by omega) (by decide), decide_eq_false h, cmp_lt]
  have e : frank 0 = 0 := by decide
  rw [e]
  unfold frank
  cases fneg x <;> simp <;> omega
theorem ord_zero (x : Nat) : (FloatKind.f64.format.order x 0 == some .eq) = decide (rung x = 0) := by
 show (Ieee.double.order x 0 == some .eq) = _
 by_cases h : 9218868437227405312 < rung x
 ·rw [order_nan (.inl h)]
  have : ¬ rung x = 0 := by omega
  rw [decide_eq_false this]; rfl
 ·rw [order_eq (by omega) (by decide), cmp_eq]
  have e : frank 0 = 0 := by decide
  rw [e]
  unfold frank
  cases fneg x <;> simp
theorem ord_most (x : Nat) : (FloatKind.f64.format.order x 9218868437227405311 == some .gt) = (finf x && !fneg x) := by
 show (Ieee.double.order x 9218868437227405311 == some .gt) = _
 unfold finf
 by_cases h : 9218868437227405312 < rung x
 ·rw [order_nan (.inl h)]
  have : ¬ rung x = 9218868437227405312 := by omega
  rw [decide_eq_false this]; rfl
 ·rw [order_eq (by omega) (by decide), cmp_gt]
  have e : frank 9218868437227405311 = 9218868437227405311 := by decide
  rw [e]
  unfold frank
  cases fneg x
  ·simp; omega
  ·simp
theorem isNaN_any (x : Nat) (w : World) : Cq 238 #[.float .f64 x] (.bool (fnan x)) w := by
 have h := ord_self x
 go_enter Tryz.func238, Tryz.ntmps238
 go_wp2
 go_ret
 exact ⟨by rw [← h]; rfl, rfl⟩
theorem not_sign (x : Nat) (hx : x < 18446744073709551616) : bits BinOp.andNot IntKind.u64 (x : Int) 9223372036854775808 = ((rung x : Nat) : Int) := by
 show IntKind.u64.wrap ((BitVec.ofInt 64 (x : Int) &&& ~~~ BitVec.ofInt 64 9223372036854775808).toNat : Int) = _
 have e1 : (BitVec.ofInt 64 (x : Int)) = BitVec.ofNat 64 x := by rw [BitVec.ofInt_natCast]
 have e2 : (~~~ BitVec.ofInt 64 9223372036854775808) = BitVec.ofNat 64 (2 ^ 63 - 1) := by decide
 rw [e1, e2, BitVec.toNat_and, BitVec.toNat_ofNat, BitVec.toNat_ofNat, Nat.mod_eq_of_lt (by omega : x < 2 ^ 64), Nat.mod_eq_of_lt (by omega : 2 ^ 63 - 1 < 2 ^ 64), Nat.and_two_pow_sub_one_eq_mod, IntKind.wrap_u64]
 unfold rung
 omega
theorem f64bits_run (x : Nat) (w : World) : (callFunc 57 #[.float .f64 x]).run Tryz.prog w = .ok (.value (.int .u64 x)) w := by
 rw [run_callFunc_extern (e := Extern.MathFloatBits.float64bits) Tryz.func57 (by kernel_rfl) (by kernel_rfl) (by kernel_rfl) (by kernel_rfl)]
 rfl
theorem f64from_run (x : Nat) (w : World) : (callFunc 296 #[.int .u64 x]).run Tryz.prog w = .ok (.value (.float .f64 x)) w := by
 rw [run_callFunc_extern (e := Extern.MathFloatBits.float64frombits) Tryz.func296 (by kernel_rfl) (by kernel_rfl) (by kernel_rfl) (by kernel_rfl)]
 rfl
theorem abs_any (x : Nat) (w : World) (hx : x < 18446744073709551616) : Cq 269 #[.float .f64 x] (.float .f64 (rung x)) w := by
 have h := not_sign x hx
 have h1 := f64bits_run x w
 have h2 := f64from_run (rung x) w
 clear hx
 go_enter Tryz.func269, Tryz.ntmps269
 go_wp2
 go_ret
 exact ⟨by rfl, rfl⟩
theorem rung_rung (x : Nat) : rung (rung x) = rung x ∧ fneg (rung x) = false := by
 unfold rung fneg
 refine ⟨by omega, ?_⟩
 rw [Nat.div_eq_of_lt (Nat.mod_lt _ (by omega))]; rfl
theorem isInf0_any (x : Nat) (w : World) (hx : x < 18446744073709551616) : Cq 210 #[.float .f64 x, .int .i64 0] (.bool (finf x)) w := by
 have h := ord_most (rung x)
 have h2 : (finf (rung x) && !fneg (rung x)) = finf x := by
  unfold finf
  rw [(rung_rung x).1, (rung_rung x).2]; simp
 rw [h2] at h
 have C1 := Lib.hid (fun W => abs_any x W hx)
 clear hx h2
 go_enter Tryz.func210, Tryz.ntmps210
 go_wp2_with fail
 refine (C1.out _).mono ?_
 rintro e w' ⟨rfl, rfl⟩
 go_wp2
 go_ret
 exact ⟨by rw [← h]; rfl, rfl⟩

open Go.RowKit
theorem two_wds' (n : Nat) (h : n < 18446744073709551616) : nrm (two n) = wds n := by rw [nrm_wds (two_ws h), two_val]
def stk (N b : Nat) : Nat := if N % 2 ^ b = 0 then N / 2 ^ b else N / 2 ^ b / 2 * 2 + 1
theorem evn_stk (N b : Nat) : evn (stk N b) 11 = evn N (11 + b) := by
 have hP := Nat.two_pow_pos b
 have hr := Nat.mod_lt N hP
 have hN := Nat.div_add_mod N (2 ^ b)
 have hp : 2 ^ (11 + b) = 2048 * 2 ^ b := by rw [Nat.pow_add]
 have hdiv : N / 2 ^ (11 + b) = N / 2 ^ b / 2048 := by rw [hp, Nat.mul_comm, ← Nat.div_div_eq_div_mul]
 have hmod : N % 2 ^ (11 + b) = N / 2 ^ b % 2048 * 2 ^ b + N % 2 ^ b := by
  rw [hp, Nat.mul_comm 2048, Nat.mod_mul, Nat.mul_comm, Nat.add_comm]
 unfold evn stk
 rw [hdiv, hmod, hp]
 rw [show (2 : Nat) ^ 11 = 2048 from rfl]
 generalize 2 ^ b = P at *
 generalize N / P = H at *
 generalize N % P = r at *
 clear hN hdiv hmod hp
 have hh : H % 2048 < 2048 := Nat.mod_lt _ (by omega)
 have hW : (if r = 0 then H else H / 2 * 2 + 1) / 2048 = H / 2048 := by split <;> omega
 rw [hW]
 rcases Nat.lt_trichotomy (H % 2048) 1024 with h1 | h1 | h1
 ·have h2 : (H % 2048 + 1) * P ≤ 1024 * P := Nat.mul_le_mul_right _ (by omega)
  rw [Nat.add_mul, Nat.one_mul] at h2
  have h3 : (if r = 0 then H else H / 2 * 2 + 1) % 2048 < 1024 := by split <;> omega
  rw [decide_eq_false (show ¬ 2048 < 2 * ((if r = 0 then H else H / 2 * 2 + 1) % 2048) by omega), decide_eq_false (show ¬ 2048 = 2 * ((if r = 0 then H else H / 2 * 2 + 1) % 2048) by omega)]
  rw [decide_eq_false (show ¬ 2048 * P < 2 * (H % 2048 * P + r) by omega), decide_eq_false (show ¬ 2048 * P = 2 * (H % 2048 * P + r) by omega)]
 ·rw [h1]
  by_cases h0 : r = 0
  ·subst h0
   rw [if_pos rfl, h1]
   rw [decide_eq_false (show ¬ 2048 < 2 * 1024 by omega), decide_eq_true (show 2048 = 2 * 1024 by omega), decide_eq_false (show ¬ 2048 * P < 2 * (1024 * P + 0) by omega), decide_eq_true (show 2048 * P = 2 * (1024 * P + 0) by omega)]
  ·rw [if_neg h0, decide_eq_true (show 2048 < 2 * ((H / 2 * 2 + 1) % 2048) by omega), decide_eq_true (show 2048 * P < 2 * (1024 * P + r) by omega)]
   rfl
 ·have h2 : 1025 * P ≤ H % 2048 * P := Nat.mul_le_mul_right _ (by omega)
  have h3 : 1024 < (if r = 0 then H else H / 2 * 2 + 1) % 2048 := by split <;> omega
  rw [decide_eq_true (show 2048 < 2 * ((if r = 0 then H else H / 2 * 2 + 1) % 2048) by omega), decide_eq_true (show 2048 * P < 2 * (H % 2048 * P + r) by omega)]
  rfl
def scl (x b : Nat) : Nat := if x / 4503599627370496 + b < 2047 then x + b * 4503599627370496 else 9218868437227405312
theorem evn_range {N L : Nat} (h1 : 2 ^ L ≤ N) (h2 : N < 2 ^ (L + 1)) (hL : 52 ≤ L) : 4503599627370496 ≤ evn N (L - 52) ∧ evn N (L - 52) ≤ 9007199254740992 := by
 have e1 : 4503599627370496 ≤ N / 2 ^ (L - 52) := by
  rw [Nat.le_div_iff_mul_le (Nat.two_pow_pos _), show 4503599627370496 = 2 ^ 52 from rfl, ← Nat.pow_add, show 52 + (L - 52) = L by omega]
  exact h1
 have e2 : N / 2 ^ (L - 52) < 9007199254740992 := by
  rw [Nat.div_lt_iff_lt_mul (Nat.two_pow_pos _), show 9007199254740992 = 2 ^ 53 from rfl, ← Nat.pow_add, show 53 + (L - 52) = L + 1 by omega]
  exact h2
 unfold evn
 have : ∀ c : Bool, c.toNat ≤ 1 := by decide
 have := this (decide (2 ^ (L - 52) < 2 * (N % 2 ^ (L - 52))) || (decide (2 ^ (L - 52) = 2 * (N % 2 ^ (L - 52))) && decide (N / 2 ^ (L - 52) % 2 = 1)))
 omega
theorem stk_range {N b : Nat} (h1 : 2 ^ (63 + b) ≤ N) (h2 : N < 2 ^ (63 + b + 1)) : 2 ^ 63 ≤ stk N b ∧ stk N b < 2 ^ 64 := by
 have e1 : 2 ^ 63 ≤ N / 2 ^ b := by
  rw [Nat.le_div_iff_mul_le (Nat.two_pow_pos _), ← Nat.pow_add]
  exact h1
 have e2 : N / 2 ^ b < 2 ^ 64 := by
  rw [Nat.div_lt_iff_lt_mul (Nat.two_pow_pos _), ← Nat.pow_add, show 64 + b = 63 + b + 1 by omega]
  exact h2
 unfold stk
 rw [show (2 : Nat) ^ 63 = 9223372036854775808 from rfl] at *
 rw [show (2 : Nat) ^ 64 = 18446744073709551616 from rfl] at *
 split <;> omega
theorem fl_stk {N b : Nat} (h1 : 2 ^ (63 + b) ≤ N) (h2 : N < 2 ^ (63 + b + 1)) : fl N = scl (fl (stk N b)) b := by
 obtain ⟨s1, s2⟩ := stk_range h1 h2
 have f1 := fl_high h1 h2 (by omega)
 have f2 := fl_high s1 s2 (by omega)
 obtain ⟨r1, r2⟩ := evn_range s1 s2 (by omega)
 rw [show 63 + b - 52 = 11 + b by omega] at f1
 rw [show 63 - 52 = 11 from rfl, evn_stk] at f2 r1 r2
 rw [f1, f2]
 generalize evn N (11 + b) = v at *
 clear f1 f2 h1 h2 s1 s2
 unfold scl
 split <;> omega
theorem fl_top {N : Nat} (K : Nat) (hK : K = 1024) (h : 2 ^ K ≤ N) : fl N = 9218868437227405312 := by
 have h0 : 0 < N := Nat.lt_of_lt_of_le (Nat.two_pow_pos K) h
 obtain ⟨a1, a2⟩ := log2_two N h0
 have hL : 1024 ≤ N.log2 := by
  have : 2 ^ K < 2 ^ (N.log2 + 1) := Nat.lt_of_le_of_lt h a2
  have := (Nat.pow_lt_pow_iff_right (a := 2) (by omega)).1 this
  omega
 obtain ⟨r1, r2⟩ := evn_range a1 a2 (by omega)
 rw [fl_high a1 a2 (by omega)]
 generalize N.log2 = L at *
 omega
theorem scl_zero {X : Nat} (h : X < 9218868437227405312) : scl X 0 = X := by
 unfold scl
 split <;> omega
theorem one_mul {y : Nat} (h1 : 4503599627370496 ≤ y) (h2 : y < 9218868437227405312) : Ieee.double.mul 4607182418800017408 y = some y := by
 have e1 : Ieee.double.signWeight = 9223372036854775808 := by decide
 have e2 : Ieee.double.binade = 4503599627370496 := by decide
 have e3 : Ieee.double.infRung = 9218868437227405312 := by decide
 have e4 : Ieee.double.leastPlace = -1074 := by decide
 have e5 : Ieee.double.fractionBits = 52 := rfl
 have r1 : Ieee.double.read 4607182418800017408 = .number false 4503599627370496 (-52) := by decide
 have r2 : Ieee.double.read y = .number false (4503599627370496 + y % 4503599627370496) (-1074 + ((y / 4503599627370496 - 1 : Nat) : Int)) := by
  unfold Ieee.Format.read
  rw [e1, e2, e3, e4]
  have q1 : y % 9223372036854775808 = y := Nat.mod_eq_of_lt (by omega)
  have q2 : y / 9223372036854775808 % 2 = 0 := by omega
  simp only [q1, q2]
  rw [if_neg (by omega), if_pos h2]
  rfl
 unfold Ieee.Format.mul
 rw [r1, r2]
 show some (Ieee.double.nearest false (4503599627370496 * (4503599627370496 + y % 4503599627370496)) (-52 + (-1074 + ((y / 4503599627370496 - 1 : Nat) : Int)))) = _
 have ht : y % 4503599627370496 < 4503599627370496 := Nat.mod_lt _ (by omega)
 have hq : y / 4503599627370496 < 2047 := by omega
 have hy := Nat.div_add_mod y 4503599627370496
 have hq1 : 1 ≤ y / 4503599627370496 := by omega
 generalize y % 4503599627370496 = t at *
 generalize y / 4503599627370496 = q at *
 have hlog : (4503599627370496 * (4503599627370496 + t)).log2 = 104 := by
  refine log2_of ?_ ?_
  ·rw [show (2 : Nat) ^ 104 = 4503599627370496 * 4503599627370496 from rfl]; omega
  ·rw [show (2 : Nat) ^ (104 + 1) = 4503599627370496 * 9007199254740992 from rfl]; omega
 unfold Ieee.Format.nearest
 rw [if_neg (by omega), e2, e3, e4, e5, hlog]
 have e6 : max (-52 + (-1074 + ((q - 1 : Nat) : Int)) + ((104 : Nat) : Int) - ((52 : Nat) : Int)) (-1074) = (q : Int) - 1075 := by omega
 rw [e6]
 dsimp only
 have q1 : (-52 + (-1074 + ((q - 1 : Nat) : Int)) - ((q : Int) - 1075)).toNat = 0 := by omega
 have q2 : ((q : Int) - 1075 - (-52 + (-1074 + ((q - 1 : Nat) : Int)))).toNat = 52 := by omega
 have q3 : ((q : Int) - 1075 - -1074).toNat = q - 1 := by omega
 rw [q1, q2, q3, Nat.shiftLeft_zero, cut_evn _ _ (by rw [hlog]; omega), Nat.mul_comm 4503599627370496]
 have hev := evn_exact (4503599627370496 + t) 52
 rw [show (2 : Nat) ^ 52 = 4503599627370496 from rfl] at hev
 rw [hev, word_pos, Nat.min_eq_left (by omega)]
 exact congrArg some (by omega)

open Go.RowKit
theorem pos_rung {x : Nat} (h : x < 9223372036854775808) : rung x = x ∧ fneg x = false ∧ frank x = (x : Int) := by
 have h1 : rung x = x := Nat.mod_eq_of_lt h
 have h2 : fneg x = false := by unfold fneg; rw [Nat.div_eq_of_lt h]; rfl
 refine ⟨h1, h2, ?_⟩
 unfold frank
 rw [h1, h2]
 rfl
theorem ford_lt {x y : Nat} (hx : x ≤ 9218868437227405312) (hy : y ≤ 9218868437227405312) : (FloatKind.f64.format.order x y == some .lt) = decide (x < y) := by
 show (Ieee.double.order x y == some .lt) = _
 obtain ⟨a1, _, a3⟩ := pos_rung (x := x) (by omega)
 obtain ⟨b1, _, b3⟩ := pos_rung (x := y) (by omega)
 rw [order_eq (by omega) (by omega), cmp_lt, a3, b3]
 simp
theorem inf1_any (w : World) : Cq 261 #[.int .i64 1] (.float .f64 9218868437227405312) w := by
 have h2 : (callFunc 296 #[.int .u64 9218868437227405312]).run Tryz.prog w = .ok (.value (.float .f64 9218868437227405312)) w := f64from_run 9218868437227405312 w
 go_enter Tryz.func261, Tryz.ntmps261
 go_wp2
 go_ret
 exact ⟨by rfl, rfl⟩
theorem normalize_any (x : Nat) (w : World) (h1 : 4503599627370496 ≤ x) (h2 : x < 9218868437227405312) : Cq 369 #[.float .f64 x] (.tuple #[.float .f64 x, .int .i64 0]) w := by
 have C1 := Lib.hid (fun W => abs_any x W (by omega))
 rw [(pos_rung (x := x) (by omega)).1] at C1
 have h := ford_lt (x := x) (y := 4503599627370496) (by omega) (by omega)
 rw [decide_eq_false (by omega)] at h
 clear h1 h2
 go_enter Tryz.func369, Tryz.ntmps369
 go_wp2_with fail
 refine (C1.out _).mono ?_
 rintro e w' ⟨rfl, rfl⟩
 go_wp2
 go_ret2
 exact ⟨rfl, rfl⟩
theorem and_top {x : Nat} (hx : x < 9223372036854775808) : x &&& 2 ^ 63 = 0 := by
 apply Nat.eq_of_testBit_eq
 intro i
 rw [Nat.testBit_and, Nat.testBit_two_pow, Nat.zero_testBit]
 by_cases h : 63 = i
 ·subst h
  rw [Nat.testBit_lt_two_pow (show x < 2 ^ 63 from hx)]; rfl
 ·rw [decide_eq_false h, Bool.and_false]
theorem not_exp (x : Nat) (hx : x < 9223372036854775808) : bits BinOp.andNot IntKind.u64 (x : Int) 9218868437227405312 = ((x % 4503599627370496 : Nat) : Int) := by
 show IntKind.u64.wrap ((BitVec.ofInt 64 (x : Int) &&& ~~~ BitVec.ofInt 64 9218868437227405312).toNat : Int) = _
 have e1 : (BitVec.ofInt 64 (x : Int)) = BitVec.ofNat 64 x := by rw [BitVec.ofInt_natCast]
 have e2 : (~~~ BitVec.ofInt 64 9218868437227405312) = BitVec.ofNat 64 (2 ^ 63 ||| (2 ^ 52 - 1)) := by decide
 rw [e1, e2, BitVec.toNat_and, BitVec.toNat_ofNat, BitVec.toNat_ofNat, Nat.mod_eq_of_lt (by omega : x < 2 ^ 64), Nat.mod_eq_of_lt (by decide : 2 ^ 63 ||| (2 ^ 52 - 1) < 2 ^ 64), Nat.and_or_distrib_left, Nat.and_two_pow_sub_one_eq_mod, and_top hx, Nat.zero_or, IntKind.wrap_u64]
 omega
theorem and_2047 (q : Nat) (hq : q < 2048) : bits BinOp.and IntKind.i64 (q : Int) 2047 = (q : Int) := by
 show IntKind.i64.wrap ((BitVec.ofInt 64 (q : Int) &&& BitVec.ofInt 64 2047).toNat : Int) = _
 have e1 : (BitVec.ofInt 64 (q : Int)) = BitVec.ofNat 64 q := by rw [BitVec.ofInt_natCast]
 have e2 : (BitVec.ofInt 64 2047) = BitVec.ofNat 64 (2 ^ 11 - 1) := by decide
 rw [e1, e2, BitVec.toNat_and, BitVec.toNat_ofNat, BitVec.toNat_ofNat, Nat.mod_eq_of_lt (by omega : q < 2 ^ 64), Nat.mod_eq_of_lt (by omega : 2 ^ 11 - 1 < 2 ^ 64), Nat.and_two_pow_sub_one_eq_mod, Nat.mod_eq_of_lt hq, IntWalk.i64_in _ (by omega)]
theorem or_exp (t q : Nat) (ht : t < 4503599627370496) (hq : q < 2048) : bits BinOp.or IntKind.u64 (t : Int) ((q * 4503599627370496 : Nat) : Int) = ((t + q * 4503599627370496 : Nat) : Int) := by
 rw [or_u64 t (q * 4503599627370496) (by omega) (by omega)]
 have := Nat.two_pow_add_eq_or_of_lt (i := 52) (b := t) ht q
 rw [Nat.or_comm, show q * 4503599627370496 = 2 ^ 52 * q by rw [Nat.mul_comm], ← this, Nat.add_comm]
theorem ldexp_zero (b : Int) (w : World) : Cq 312 #[.float .f64 0, .int .i64 b] (.float .f64 0) w := by
 have h : (FloatKind.f64.format.order 0 0 == some .eq) = true := by decide
 have C : Cq 344 #[.float .f64 0, .int .i64 b] (.float .f64 0) w := by
  go_enter Tryz.func344, Tryz.ntmps344
  go_wp2
  go_ret
  exact ⟨rfl, rfl⟩
 have C := Lib.hid C
 clear h
 go_enter Tryz.func312, Tryz.ntmps312
 go_wp2_with fail
 refine C.out.mono ?_
 rintro e w' ⟨rfl, rfl⟩
 go_wp2
 go_ret
 exact ⟨rfl, rfl⟩
theorem ldexpl_any (x b : Nat) (w : World) (h1 : 4503599627370496 ≤ x) (h2 : x < 9218868437227405312) (hb : b < 1048576) : Cq 344 #[.float .f64 x, .int .i64 b] (.float .f64 (scl x b)) w := by
 obtain ⟨p1, p2, p3⟩ := pos_rung (x := x) (by omega)
 have C1 := Lib.hid (fun W => isNaN_any x W)
 have C2 := Lib.hid (fun W => isInf0_any x W (by omega))
 rw [show fnan x = false from by unfold fnan; rw [p1]; exact decide_eq_false (by omega)] at C1
 rw [show finf x = false from by unfold finf; rw [p1]; exact decide_eq_false (by omega)] at C2
 have C3 := Lib.hid (fun W => normalize_any x W h1 h2)
 have C4 := Lib.hid (fun W => inf1_any W)
 have h3 := ord_zero x
 rw [p1, decide_eq_false (by omega)] at h3
 have h4 := ord_below x
 rw [p2, Bool.false_and, Bool.and_false] at h4
 have h5 := f64bits_run x w
 have h6 := not_exp x (by omega)
 unfold scl
 obtain ⟨q, hq⟩ : ∃ q, x / 4503599627370496 = q := ⟨_, rfl⟩
 obtain ⟨t, ht⟩ : ∃ t, x % 4503599627370496 = t := ⟨_, rfl⟩
 rw [ht] at h6
 rw [hq]
 have h7 := and_2047 q (by omega)
 have k1 : (x : Int) / 4503599627370496 = (q : Int) := by omega
 have k2 : IntKind.i64.wrap (q : Int) = (q : Int) := IntWalk.i64_in _ (by omega)
 have k3 : IntKind.i64.wrap ((q : Int) - 1023) = (q : Int) - 1023 := IntWalk.i64_in _ (by omega)
 have k4 : IntKind.i64.wrap ((b : Int) + ((q : Int) - 1023)) = (b : Int) + ((q : Int) - 1023) := IntWalk.i64_in _ (by omega)
 have k5 : IntKind.i64.wrap (b : Int) = (b : Int) := IntWalk.i64_in _ (by omega)
 have t1 : decide ((b : Int) + ((q : Int) - 1023) < -1075) = false := decide_eq_false (by omega)
 by_cases hlt : q + b < 2047
 ·rw [if_pos hlt]
  have h8 := or_exp t (b + q) (by omega) (by omega)
  have h9 := f64from_run (t + (b + q) * 4503599627370496) w
  have h10 := one_mul (y := t + (b + q) * 4503599627370496) (by omega) (by omega)
  have h11 : (binOp BinOp.mul 22 (.float .f64 4607182418800017408) (.float .f64 (t + (b + q) * 4503599627370496))).run Tryz.prog w = .ok (.float .f64 (t + (b + q) * 4503599627370496)) w := run_float_arith _ _ _ _ _ _ _ h10
  clear h10
  have t2 : decide (1023 < (b : Int) + ((q : Int) - 1023)) = false := decide_eq_false (by omega)
  have t3 : decide ((b : Int) + ((q : Int) - 1023) < -1022) = false := decide_eq_false (by omega)
  have k6 : IntKind.i64.wrap ((b : Int) + ((q : Int) - 1023) + 1023) = ((b + q : Nat) : Int) := by rw [IntWalk.i64_in _ (by omega)]; omega
  have k7 : IntKind.u64.wrap ((b + q : Nat) : Int) = ((b + q : Nat) : Int) := by rw [IntKind.wrap_u64]; omega
  have hx : x + b * 4503599627370496 = t + (b + q) * 4503599627370496 := by omega
  rw [hx]
  obtain ⟨y, hy⟩ : ∃ y, t + (b + q) * 4503599627370496 = y := ⟨_, rfl⟩
  obtain ⟨z, hz⟩ : ∃ z, b + q = z := ⟨_, rfl⟩
  rw [hy] at h8 h9 h11 ⊢
  rw [hz] at h8 k6 k7
  have k8 : IntKind.u64.wrap ((z : Int) * 4503599627370496) = ((z * 4503599627370496 : Nat) : Int) := by rw [IntKind.wrap_u64]; omega
  rw [← k8] at h8
  clear k8
  clear h1 h2 hb p1 p2 p3 hq ht hlt hx hy hz
  go_enter Tryz.func344, Tryz.ntmps344
  go_wp2_with fail
  refine (C2.out _).mono ?_
  rintro e w' ⟨rfl, rfl⟩
  go_wp2_with fail
  refine (C1.out _).mono ?_
  rintro e w' ⟨rfl, rfl⟩
  go_wp2_with fail
  refine (C3.out _).mono ?_
  rintro e w' ⟨rfl, rfl⟩
  go_wp2
  go_ret
  exact ⟨rfl, rfl⟩
 ·rw [if_neg hlt]
  have t2 : decide (1023 < (b : Int) + ((q : Int) - 1023)) = true := decide_eq_true (by omega)
  clear h1 h2 hb p1 p2 p3 hq ht hlt h6
  go_enter Tryz.func344, Tryz.ntmps344
  go_wp2_with fail
  refine (C2.out _).mono ?_
  rintro e w' ⟨rfl, rfl⟩
  go_wp2_with fail
  refine (C1.out _).mono ?_
  rintro e w' ⟨rfl, rfl⟩
  go_wp2_with fail
  refine (C3.out _).mono ?_
  rintro e w' ⟨rfl, rfl⟩
  go_wp2_with fail
  refine (C4.out _).mono ?_
  rintro e w' ⟨rfl, rfl⟩
  go_wp2
  go_ret
  exact ⟨rfl, rfl⟩
theorem ldexp_any (x b : Nat) (w : World) (h1 : 4503599627370496 ≤ x) (h2 : x < 9218868437227405312) (hb : b < 1048576) : Cq 312 #[.float .f64 x, .int .i64 b] (.float .f64 (scl x b)) w := by
 have C := Lib.hid (ldexpl_any x b w h1 h2 hb)
 clear h1 h2 hb
 go_enter Tryz.func312, Tryz.ntmps312
 go_wp2_with fail
 refine C.out.mono ?_
 rintro e w' ⟨rfl, rfl⟩
 go_wp2
 go_ret
 exact ⟨rfl, rfl⟩

open Go.RowKit
theorem get_zero {l : List Nat} (h : Ws l) : l.getD 0 0 = val l % 4294967296 := by
 cases l with
 | nil => rfl
 | cons a r =>
  have := h.getD 0
  simp only [List.getD_cons_zero] at this ⊢
  simp only [val]
  omega
theorem get_one {l : List Nat} (h : Ws l) : l.getD 1 0 = val l / 4294967296 % 4294967296 := by
 cases l with
 | nil => rfl
 | cons a r =>
  have h0 := h.getD 0
  have h1 := get_zero (l := r) (fun x hx => h x (List.mem_cons_of_mem _ hx))
  simp only [List.getD_cons_zero] at h0
  simp only [List.getD_cons_succ, val]
  omega
theorem fl_pos {N : Nat} (h : 0 < N) (hN : N < 2 ^ 65) : 4503599627370496 ≤ fl N ∧ fl N < 9218868437227405312 := by
 obtain ⟨a1, a2⟩ := log2_two N h
 have hL : N.log2 < 65 := by
  have : 2 ^ N.log2 < 2 ^ 65 := Nat.lt_of_le_of_lt a1 hN
  exact (Nat.pow_lt_pow_iff_right (a := 2) (by omega)).1 this
 rcases Nat.lt_or_ge N.log2 52 with h1 | h1
 ·rw [fl_low a1 a2 (by omega)]
  have h3 : N * 2 ^ (52 - N.log2) < 9007199254740992 := by
   have : N * 2 ^ (52 - N.log2) < 2 ^ (N.log2 + 1) * 2 ^ (52 - N.log2) := Nat.mul_lt_mul_of_pos_right a2 (Nat.two_pow_pos _)
   rw [← Nat.pow_add, show N.log2 + 1 + (52 - N.log2) = 53 by omega] at this
   exact this
  omega
 ·obtain ⟨r1, r2⟩ := evn_range a1 a2 h1
  rw [fl_high a1 a2 h1]
  omega
theorem fl_top64 {v n : Nat} (h1 : 2 ^ (n - 1) ≤ v) (h2 : v < 2 ^ n) (h0 : 0 < n) : stk v (n - 64) < 18446744073709551616 ∧ 0 < stk v (n - 64) ∧ fl v = scl (fl (stk v (n - 64))) (n - 64) := by
 rcases Nat.lt_or_ge 64 n with h | h
 ·obtain ⟨b, rfl⟩ : ∃ b, n = 64 + b := ⟨n - 64, by omega⟩
  have a1 : 2 ^ (63 + b) ≤ v := by rw [show 63 + b = 64 + b - 1 by omega]; exact h1
  have a2 : v < 2 ^ (63 + b + 1) := by rw [show 63 + b + 1 = 64 + b by omega]; exact h2
  rw [Nat.add_sub_cancel_left]
  obtain ⟨s1, s2⟩ := stk_range a1 a2
  have := Nat.two_pow_pos 63
  exact ⟨s2, by omega, fl_stk a1 a2⟩
 ·rw [show n - 64 = 0 by omega]
  have e : stk v 0 = v := by unfold stk; rw [Nat.pow_zero, Nat.mod_one, if_pos rfl, Nat.div_one]
  have hv : v < 2 ^ 64 := Nat.lt_of_lt_of_le h2 (Nat.pow_le_pow_right (by omega) h)
  have hp := Nat.two_pow_pos (n - 1)
  have hf := fl_pos (N := v) (by omega) (Nat.lt_of_lt_of_le hv (by decide))
  rw [e, scl_zero hf.2]
  exact ⟨hv, by omega, rfl⟩
theorem or_one64 (x : Nat) (hx : x < 18446744073709551616) : bits BinOp.or IntKind.u64 (x : Int) 1 = ((x / 2 * 2 + 1 : Nat) : Int) := by
 have h := or_u64 x 1 hx (by omega)
 rw [show ((1 : Nat) : Int) = 1 from rfl] at h
 rw [h]
 have e : x ||| 1 = x / 2 * 2 + 1 := by
  have h1 : x = 2 * (x / 2) + x % 2 := by omega
  have h2 := Nat.two_pow_add_eq_or_of_lt (i := 1) (b := 1) (by omega) (x / 2)
  rcases Nat.mod_two_eq_zero_or_one x with h3 | h3
  ·rw [h3, Nat.add_zero] at h1
   rw [Nat.pow_one] at h2
   rw [← h1] at h2
   omega
  ·have h4 := Nat.two_pow_add_eq_or_of_lt (i := 1) (b := 1) (by omega) (x / 2)
   rw [Nat.pow_one] at h4
   have h5 : x = 2 * (x / 2) ||| 1 := by rw [← h4]; omega
   rw [h5, Nat.or_assoc, Nat.or_self, ← h5]
   omega
 rw [e]
theorem join64 (y z : Nat) (hy : y < 4294967296) (hz : z < 4294967296) : bits BinOp.or IntKind.u64 (IntKind.u64.wrap ((y : Int) * 4294967296)) (z : Int) = ((z + y * 4294967296 : Nat) : Int) := by
 have e : IntKind.u64.wrap ((y : Int) * 4294967296) = ((y * 4294967296 : Nat) : Int) := by rw [IntKind.wrap_u64]; omega
 rw [e, or_u64 (y * 4294967296) z (by omega) (by omega)]
 have := Nat.two_pow_add_eq_or_of_lt (i := 32) (b := z) hz y
 rw [show y * 4294967296 = 2 ^ 32 * y by rw [Nat.mul_comm], ← this, Nat.add_comm]
theorem pfloat_top (A : Option Addr) (n c : Nat) (l : List Nat) (w : World) (hn : l.length = n) (hc : n ≤ c) (hm : n ≤ 35184372087808) (h : RW w w.heap.size A l) (hb : 1024 < btl l) :
  Ct 285 #[.slice A n c] (.float .f64 (fl (val l))) w := by
 have C1 := Lib.hid (bits_any A n c l w.heap.size w hn hc (by omega) h)
 have C2 := Lib.hid (fun W => inf1_any W)
 have h0 : nrm l ≠ [] := by intro e; unfold btl at hb; rw [if_pos e] at hb; omega
 obtain ⟨b1, b2, b3⟩ := btl_bounds h.1 h0
 obtain ⟨K, hK⟩ : ∃ K, K = 1024 := ⟨_, rfl⟩
 have hf : fl (val l) = 9218868437227405312 := fl_top K hK (Nat.le_trans (Nat.pow_le_pow_right (by omega) (by omega)) b1)
 rw [hf]
 obtain ⟨m, hm2⟩ : ∃ m, btl l = m := ⟨_, rfl⟩
 rw [hm2] at C1 hb
 have t1 : (1024 : Int) < (m : Int) := by omega
 clear hn hc hm h h0 b1 b2 b3 hK hf hm2 hb
 go_enter Tryz.func285, Tryz.ntmps285
 go_wp2_with fail
 refine C1.out.mono ?_
 rintro e w' ⟨rfl, rfl⟩
 go_wp2_with fail
 refine (C2.out _).mono ?_
 rintro e w' ⟨rfl, rfl⟩
 go_wp2
 go_ret
 exact ⟨rfl, Below.refl _ _⟩
theorem pfloat_ok (A : Option Addr) (n c : Nat) (l : List Nat) (w : World) (hn : l.length = n) (hc : n ≤ c) (hm : n ≤ 35184372087808) (h : RW w w.heap.size A l) (hb : btl l ≤ 1024) :
  Ct 285 #[.slice A n c] (.float .f64 (fl (val l))) w := by
 have C1 := Lib.hid (bits_any A n c l w.heap.size w hn hc (by omega) h)
 have C2 := Lib.hid (pshr_any A n c ((btl l - 64 : Nat) : Int) l w hn hc hm h)
 rw [Int.toNat_natCast] at C2
 obtain ⟨v, hv⟩ : ∃ v, val l = v := ⟨_, rfl⟩
 -- what is told of the number
 have hT : stk v (btl l - 64) < 18446744073709551616 ∧ (∀ W, Cq 312 #[.float .f64 (fl (stk v (btl l - 64))), .int .i64 (btl l - 64 : Nat)] (.float .f64 (fl v)) W) := by
  by_cases h0 : nrm l = []
  ·have e1 : btl l = 0 := by unfold btl; rw [if_pos h0]
   have e2 : v = 0 := by rw [← hv, ← val_nrm, h0]; rfl
   rw [e1, e2]
   have e3 : stk 0 (0 - 64) = 0 := by decide
   rw [e3, fl_zero]
   exact ⟨by omega, fun W => ldexp_zero _ W⟩
  ·obtain ⟨b1, b2, b3⟩ := btl_bounds h.1 h0
   rw [hv] at b1 b2
   obtain ⟨s1, s2, s3⟩ := fl_top64 b1 b2 b3
   have hf := fl_pos s2 (Nat.lt_trans s1 (by decide))
   refine ⟨s1, fun W => ?_⟩
   rw [s3]
   exact ldexp_any _ _ W hf.1 hf.2 (by omega)
 rw [hv] at C2 ⊢
 obtain ⟨m, hm2⟩ : ∃ m, btl l = m := ⟨_, rfl⟩
 rw [hm2] at C1 C2 hT hb
 obtain ⟨b, hb2⟩ : ∃ b, m - 64 = b := ⟨_, rfl⟩
 rw [hb2] at C2 hT
 obtain ⟨u, hu⟩ : ∃ u, fl v = u := ⟨_, rfl⟩
 rw [hu] at hT ⊢
 obtain ⟨hlt, hL⟩ := hT
 have C4 := Lib.hid hL
 have HST : Hid (stk v b < 18446744073709551616) := Lib.hid hlt
 have t1 : decide ((1024 : Int) < (m : Int)) = false := decide_eq_false (by omega)
 have k1 : IntKind.i64.wrap ((m : Int) - 64) = (m : Int) - 64 := IntWalk.i64_in _ (by omega)
 have k2 : max ((m : Int) - 64) 0 = (b : Int) := by omega
 clear hn hc hm h hb hv hm2 hb2 hlt hL hu
 go_enter Tryz.func285, Tryz.ntmps285
 go_wp2_with fail
 refine C1.out.mono ?_
 rintro e w' ⟨rfl, rfl⟩
 go_wp2_with fail
 refine C2.out.mono ?_
 rintro e w2 ⟨A2, n2, c2, he, hn2, hc2, r2, hb2⟩
 obtain ⟨H, hH⟩ : ∃ H, v / 2 ^ b = H := ⟨_, rfl⟩
 obtain ⟨lb, hlb⟩ : ∃ lb, decide (v % 2 ^ b ≠ 0) = lb := ⟨_, rfl⟩
 have hs : stk v b = if lb = true then H / 2 * 2 + 1 else H := by
  unfold stk
  rw [hH, ← hlb]
  by_cases h0 : v % 2 ^ b = 0
  ·simp [h0]
  ·simp [h0]
 rw [hH] at hn2 r2
 rw [hlb] at he
 subst he
 rw [hs] at C4
 have hHl : H < 18446744073709551616 := by
  have := HST.out
  rw [hs] at this
  split at this <;> omega
 have hn22 : n2 ≤ 2 := by
  have := nrm_len (two H)
  rw [two_wds' H hHl, ← hn2] at this
  exact this
 have W1 := Lib.hid (fun W (hW : Below w2.heap.size w2 W) => show Cp 329 #[.slice A2 n2 c2, .int .i64 1] W fun e w' => e = .returned (.int .u32 (H / 4294967296 : Nat)) ∧ W = w' from by
  have := word_nat A2 n2 c2 1 (wds H) w2.heap.size W hn2.symm (by omega) (r2.below hW)
  rw [get_one (wds_ws H), wds_val, Nat.mod_eq_of_lt (by omega)] at this
  exact this)
 have W0 := Lib.hid (fun W (hW : Below w2.heap.size w2 W) => show Cp 329 #[.slice A2 n2 c2, .int .i64 0] W fun e w' => e = .returned (.int .u32 (H % 4294967296 : Nat)) ∧ W = w' from by
  have := word_nat A2 n2 c2 0 (wds H) w2.heap.size W hn2.symm (by omega) (r2.below hW)
  rw [get_zero (wds_ws H), wds_val] at this
  exact this)
 have hj := join64 (H / 4294967296) (H % 4294967296) (by omega) (by omega)
 rw [show H % 4294967296 + H / 4294967296 * 4294967296 = H by omega] at hj
 have ho := or_one64 H hHl
 have hy := show H / 4294967296 < 4294967296 by omega
 have hz := show H % 4294967296 < 4294967296 by omega
 obtain ⟨y, hyy⟩ : ∃ y, H / 4294967296 = y := ⟨_, rfl⟩
 obtain ⟨z, hzz⟩ : ∃ z, H % 4294967296 = z := ⟨_, rfl⟩
 rw [hyy] at W1 hj hy
 rw [hzz] at W0 hj hz
 have y1 : IntKind.u64.wrap (y : Int) = (y : Int) := by rw [IntKind.wrap_u64]; omega
 have z1 : IntKind.u64.wrap (z : Int) = (z : Int) := by rw [IntKind.wrap_u64]; omega
 have HB := Lib.hid hb2
 have hbd := Below.refl w2.heap.size w2
 clear hyy hzz hy hz hH hlb hs hHl hn2 hn22 hc2 r2 hb2 HST C1 C2 t1 k1 k2
 cases lb
 ·rw [if_neg (by decide)] at C4
  clear ho
  go_wp2_with (first
   | (go_at_call 329; (with_reducible refine (W1.out _ ?_).mono ?_); exact hbd; rintro e w' ⟨rfl, rfl⟩)
   | (go_at_call 329; (with_reducible refine (W0.out _ ?_).mono ?_); exact hbd; rintro e w' ⟨rfl, rfl⟩)
   | fail)
  refine (C4.out _).mono ?_
  rintro e w' ⟨rfl, rfl⟩
  go_wp2
  go_ret
  exact ⟨rfl, HB.out⟩
 ·rw [if_pos rfl] at C4
  go_wp2_with (first
   | (go_at_call 329; (with_reducible refine (W1.out _ ?_).mono ?_); exact hbd; rintro e w' ⟨rfl, rfl⟩)
   | (go_at_call 329; (with_reducible refine (W0.out _ ?_).mono ?_); exact hbd; rintro e w' ⟨rfl, rfl⟩)
   | fail)
  refine (C4.out _).mono ?_
  rintro e w' ⟨rfl, rfl⟩
  go_wp2
  go_ret
  exact ⟨rfl, HB.out⟩
theorem pfloat_any (A : Option Addr) (n c : Nat) (l : List Nat) (w : World) (hn : l.length = n) (hc : n ≤ c) (hm : n ≤ 35184372087808) (h : RW w w.heap.size A l) :
  Ct 285 #[.slice A n c] (.float .f64 (fl (val l))) w := by
 by_cases hb : 1024 < btl l
 ·exact pfloat_top A n c l w hn hc hm h hb
 ·exact pfloat_ok A n c l w hn hc hm h (by omega)

open Go.RowKit
structure NF (r z c M k : Nat) : Prop where
 lo : 4503599627370496 ≤ M
 hi : M < 9007199254740992
 hz : z = k * 4503599627370496 + M
 hc : fmag r * 2 ^ c = M * 2 ^ k
 top : z < 9218868437227405312
 way : (c = 0 ∧ z = r) ∨ (c = 52 ∧ r < 4503599627370496 ∧ Ieee.double.mul r 4841369599423283200 = some z)
theorem nf_of {r : Nat} (h0 : 0 < r) (hr : r < 9218868437227405312) : ∃ z c M k, NF r z c M k := by
 rcases Nat.lt_or_ge r 4503599627370496 with h | h
 ·have hf := fmag_low (r := r) (by omega)
  obtain ⟨z, hz⟩ := rep_of (N := r * 2 ^ 52) (M := r) (j := 52) rfl (by omega)
  have h1 : fmag z < fmag 4845873199050653696 := by
   obtain ⟨K, hK⟩ : ∃ K : Nat, K = 1075 := ⟨_, rfl⟩
   have e1 := fmag_make 4503599627370496 K (by omega) (by omega)
   rw [show K * 4503599627370496 + 4503599627370496 = 4845873199050653696 by rw [hK]] at e1
   rw [hz, e1]
   have h2 : r * 2 ^ 52 < 4503599627370496 * 2 ^ 52 := Nat.mul_lt_mul_of_pos_right h (Nat.two_pow_pos 52)
   have h3 : 4503599627370496 * 2 ^ 52 ≤ 4503599627370496 * 2 ^ K := Nat.mul_le_mul_left _ (Nat.pow_le_pow_right (by omega) (by omega))
   exact Nat.lt_of_lt_of_le h2 h3
  have hzt := fmag_lt.1 h1
  have hzl : 4503599627370496 ≤ z := by
   rcases Nat.lt_or_ge z 4503599627370496 with h4 | h4
   ·have h5 := fmag_low (r := z) (by omega)
    have h6 : 1 * 2 ^ 52 ≤ r * 2 ^ 52 := Nat.mul_le_mul_right _ h0
    omega
   ·exact h4
  obtain ⟨M, k, a1, a2, a3, a4⟩ := fmag_split hzl
  refine ⟨z, 52, M, k, a1, a2, a3, by rw [hf, ← hz, a4], by omega, .inr ⟨rfl, h, ?_⟩⟩
  obtain ⟨K, hK⟩ : ∃ K : Nat, K = 1074 := ⟨_, rfl⟩
  refine mul_exact (K := K) hr (by omega) (by omega) hK ?_
  have e1 := fmag_make 4503599627370496 K (by omega) (by omega)
  rw [show K * 4503599627370496 + 4503599627370496 = 4841369599423283200 by rw [hK]] at e1
  rw [e1, hz, hf, show (4503599627370496 : Nat) = 2 ^ 52 from rfl, ← Nat.mul_assoc]
 ·obtain ⟨M, k, a1, a2, a3, a4⟩ := fmag_split h
  exact ⟨r, 0, M, k, a1, a2, a3, by rw [Nat.pow_zero, Nat.mul_one, a4], hr, .inl ⟨rfl, rfl⟩⟩
theorem normalize_sub (r z : Nat) (w : World) (h1 : r < 4503599627370496) (hm : Ieee.double.mul r 4841369599423283200 = some z) : Cq 369 #[.float .f64 r] (.tuple #[.float .f64 z, .int .i64 (-52)]) w := by
 have C1 := Lib.hid (fun W => abs_any r W (by omega))
 rw [(pos_rung (x := r) (by omega)).1] at C1
 have h := ford_lt (x := r) (y := 4503599627370496) (by omega) (by omega)
 rw [decide_eq_true h1] at h
 have h11 : (binOp BinOp.mul 22 (.float .f64 r) (.float .f64 4841369599423283200)).run Tryz.prog w = .ok (.float .f64 z) w := run_float_arith _ _ _ _ _ _ _ hm
 clear h1 hm
 go_enter Tryz.func369, Tryz.ntmps369
 go_wp2_with fail
 refine (C1.out _).mono ?_
 rintro e w' ⟨rfl, rfl⟩
 go_wp2
 go_ret2
 exact ⟨rfl, rfl⟩
open Go.RowKit
theorem fmag_up {y D : Nat} (h : 4503599627370496 ≤ y) : fmag (y + D * 4503599627370496) = fmag y * 2 ^ D := by
 obtain ⟨M, d, a1, a2, a3, a4⟩ := fmag_split h
 rw [a4, a3, show d * 4503599627370496 + M + D * 4503599627370496 = (d + D) * 4503599627370496 + M by omega, fmag_make _ _ a1 a2, Nat.pow_add, Nat.mul_assoc]
theorem ldexp_sub_n {z M k D u : Nat} (y : Nat) (hy0 : 0 < y) (hy : y < 4503599627370496) (hm : Ieee.double.mul y 4841369599423283200 = some z) (a1 : 4503599627370496 ≤ M) (a2 : M < 9007199254740992) (a3 : z = k * 4503599627370496 + M) (a4 : z < 9218868437227405312) (hD : D < 1048576) (hd : 52 ≤ D + k) (ht : D + k < 2098) (hu : u = (D + k - 52) * 4503599627370496 + M) (w : World) :
  Cq 344 #[.float .f64 y, .int .i64 (D : Nat)] (.float .f64 u) w := by
 obtain ⟨p1, p2, p3⟩ := pos_rung (x := y) (by omega)
 have C1 := Lib.hid (fun W => isNaN_any y W)
 have C2 := Lib.hid (fun W => isInf0_any y W (by omega))
 rw [show fnan y = false from by unfold fnan; rw [p1]; exact decide_eq_false (by omega)] at C1
 rw [show finf y = false from by unfold finf; rw [p1]; exact decide_eq_false (by omega)] at C2
 have C3 := Lib.hid (fun W => normalize_sub y z W hy hm)
 have h3 := ord_zero y
 rw [p1, decide_eq_false (by omega)] at h3
 have h5 := f64bits_run z w
 have h6 := not_exp z (by omega)
 obtain ⟨t, ht2⟩ : ∃ t, M = 4503599627370496 + t := ⟨M - 4503599627370496, by omega⟩
 rw [show z % 4503599627370496 = t by omega] at h6
 have h7 := and_2047 (k + 1) (by omega)
 obtain ⟨Q, hQ⟩ : ∃ Q, D + k = Q + 51 := ⟨D + k - 51, by omega⟩
 have h8 := or_exp t Q (by omega) (by omega)
 have e8 : t + Q * 4503599627370496 = u := by omega
 rw [e8] at h8
 have h9 := f64from_run u w
 have h10 := one_mul (y := u) (by omega) (by omega)
 have h11 : (binOp BinOp.mul 22 (.float .f64 4607182418800017408) (.float .f64 u)).run Tryz.prog w = .ok (.float .f64 u) w := run_float_arith _ _ _ _ _ _ _ h10
 have k1 : (z : Int) / 4503599627370496 = ((k + 1 : Nat) : Int) := by omega
 have k2 : IntKind.i64.wrap ((k + 1 : Nat) : Int) = ((k + 1 : Nat) : Int) := IntWalk.i64_in _ (by omega)
 have k3 : IntKind.i64.wrap (((k + 1 : Nat) : Int) - 1023) = (k : Int) - 1022 := by rw [IntWalk.i64_in _ (by omega)]; omega
 have k4 : IntKind.i64.wrap ((D : Int) + -52) = (D : Int) - 52 := by rw [IntWalk.i64_in _ (by omega)]; omega
 have k5 : IntKind.i64.wrap ((D : Int) - 52 + ((k : Int) - 1022)) = (Q : Int) - 1023 := by rw [IntWalk.i64_in _ (by omega)]; omega
 have k6 : IntKind.i64.wrap ((Q : Int) - 1023 + 1023) = (Q : Int) := by rw [IntWalk.i64_in _ (by omega)]; omega
 have k7 : IntKind.u64.wrap (Q : Int) = (Q : Int) := by rw [IntKind.wrap_u64]; omega
 have k8 : IntKind.u64.wrap ((Q : Int) * 4503599627370496) = ((Q * 4503599627370496 : Nat) : Int) := by rw [IntKind.wrap_u64]; omega
 have t1 : decide ((Q : Int) - 1023 < -1075) = false := decide_eq_false (by omega)
 have t2 : decide (1023 < (Q : Int) - 1023) = false := decide_eq_false (by omega)
 have t3 : decide ((Q : Int) - 1023 < -1022) = false := decide_eq_false (by omega)
 obtain ⟨q, hq⟩ : ∃ q, k + 1 = q := ⟨_, rfl⟩
 obtain ⟨X1, hX1⟩ : ∃ X1, (k : Int) - 1022 = X1 := ⟨_, rfl⟩
 obtain ⟨X2, hX2⟩ : ∃ X2, (D : Int) - 52 = X2 := ⟨_, rfl⟩
 obtain ⟨X3, hX3⟩ : ∃ X3, (Q : Int) - 1023 = X3 := ⟨_, rfl⟩
 rw [hq] at h7 k1 k2 k3
 rw [hX1] at k3 k5
 rw [hX2] at k4 k5
 rw [hX3] at k5 k6 t1 t2 t3
 rw [← k8] at h8
 clear hy0 hy hm a1 a2 a3 a4 hD hd ht hu p1 p2 p3 ht2 hQ e8 h10 k8 hq hX1 hX2 hX3
 go_enter Tryz.func344, Tryz.ntmps344
 go_wp2_with fail
 refine (C2.out _).mono ?_
 rintro e w' ⟨rfl, rfl⟩
 go_wp2_with fail
 refine (C1.out _).mono ?_
 rintro e w' ⟨rfl, rfl⟩
 go_wp2_with fail
 refine (C3.out _).mono ?_
 rintro e w' ⟨rfl, rfl⟩
 go_wp2
 go_ret
 exact ⟨rfl, rfl⟩
theorem ldexp_sub_d {z M k D u r : Nat} (y : Nat) (hy0 : 0 < y) (hy : y < 4503599627370496) (hm : Ieee.double.mul y 4841369599423283200 = some z) (a1 : 4503599627370496 ≤ M) (a2 : M < 9007199254740992) (a3 : z = k * 4503599627370496 + M) (a4 : z < 9218868437227405312) (hd : D + k < 52) (hu : u = (D + k + 1) * 4503599627370496 + M) (hr : Ieee.double.mul 4368491638549381120 u = some r) (w : World) :
  Cq 344 #[.float .f64 y, .int .i64 (D : Nat)] (.float .f64 r) w := by
 obtain ⟨p1, p2, p3⟩ := pos_rung (x := y) (by omega)
 have C1 := Lib.hid (fun W => isNaN_any y W)
 have C2 := Lib.hid (fun W => isInf0_any y W (by omega))
 rw [show fnan y = false from by unfold fnan; rw [p1]; exact decide_eq_false (by omega)] at C1
 rw [show finf y = false from by unfold finf; rw [p1]; exact decide_eq_false (by omega)] at C2
 have C3 := Lib.hid (fun W => normalize_sub y z W hy hm)
 have h3 := ord_zero y
 rw [p1, decide_eq_false (by omega)] at h3
 have h5 := f64bits_run z w
 have h6 := not_exp z (by omega)
 obtain ⟨t, ht2⟩ : ∃ t, M = 4503599627370496 + t := ⟨M - 4503599627370496, by omega⟩
 rw [show z % 4503599627370496 = t by omega] at h6
 have h7 := and_2047 (k + 1) (by omega)
 obtain ⟨Q, hQ⟩ : ∃ Q, D + k + 2 = Q := ⟨_, rfl⟩
 have h8 := or_exp t Q (by omega) (by omega)
 have e8 : t + Q * 4503599627370496 = u := by omega
 rw [e8] at h8
 have h9 := f64from_run u w
 have h11 : (binOp BinOp.mul 22 (.float .f64 4368491638549381120) (.float .f64 u)).run Tryz.prog w = .ok (.float .f64 r) w := run_float_arith _ _ _ _ _ _ _ hr
 have k1 : (z : Int) / 4503599627370496 = ((k + 1 : Nat) : Int) := by omega
 have k2 : IntKind.i64.wrap ((k + 1 : Nat) : Int) = ((k + 1 : Nat) : Int) := IntWalk.i64_in _ (by omega)
 have k3 : IntKind.i64.wrap (((k + 1 : Nat) : Int) - 1023) = (k : Int) - 1022 := by rw [IntWalk.i64_in _ (by omega)]; omega
 have k4 : IntKind.i64.wrap ((D : Int) + -52) = (D : Int) - 52 := by rw [IntWalk.i64_in _ (by omega)]; omega
 have k5 : IntKind.i64.wrap ((D : Int) - 52 + ((k : Int) - 1022)) = (Q : Int) - 1076 := by rw [IntWalk.i64_in _ (by omega)]; omega
 have k9 : IntKind.i64.wrap ((Q : Int) - 1076 + 53) = (Q : Int) - 1023 := by rw [IntWalk.i64_in _ (by omega)]; omega
 have k6 : IntKind.i64.wrap ((Q : Int) - 1023 + 1023) = (Q : Int) := by rw [IntWalk.i64_in _ (by omega)]; omega
 have k7 : IntKind.u64.wrap (Q : Int) = (Q : Int) := by rw [IntKind.wrap_u64]; omega
 have k8 : IntKind.u64.wrap ((Q : Int) * 4503599627370496) = ((Q * 4503599627370496 : Nat) : Int) := by rw [IntKind.wrap_u64]; omega
 have t1 : decide ((Q : Int) - 1076 < -1075) = false := decide_eq_false (by omega)
 have t2 : decide (1023 < (Q : Int) - 1076) = false := decide_eq_false (by omega)
 have t3 : decide ((Q : Int) - 1076 < -1022) = true := decide_eq_true (by omega)
 obtain ⟨q, hq⟩ : ∃ q, k + 1 = q := ⟨_, rfl⟩
 obtain ⟨X1, hX1⟩ : ∃ X1, (k : Int) - 1022 = X1 := ⟨_, rfl⟩
 obtain ⟨X2, hX2⟩ : ∃ X2, (D : Int) - 52 = X2 := ⟨_, rfl⟩
 obtain ⟨X3, hX3⟩ : ∃ X3, (Q : Int) - 1076 = X3 := ⟨_, rfl⟩
 obtain ⟨X4, hX4⟩ : ∃ X4, (Q : Int) - 1023 = X4 := ⟨_, rfl⟩
 rw [hq] at h7 k1 k2 k3
 rw [hX1] at k3 k5
 rw [hX2] at k4 k5
 rw [hX3] at k5 k9 t1 t2 t3
 rw [hX4] at k9 k6
 rw [← k8] at h8
 clear hy0 hy hm a1 a2 a3 a4 hd hu hr p1 p2 p3 ht2 hQ e8 k8 hq hX1 hX2 hX3 hX4
 go_enter Tryz.func344, Tryz.ntmps344
 go_wp2_with fail
 refine (C2.out _).mono ?_
 rintro e w' ⟨rfl, rfl⟩
 go_wp2_with fail
 refine (C1.out _).mono ?_
 rintro e w' ⟨rfl, rfl⟩
 go_wp2_with fail
 refine (C3.out _).mono ?_
 rintro e w' ⟨rfl, rfl⟩
 go_wp2
 go_ret
 exact ⟨rfl, rfl⟩
theorem fmag_inf {r : Nat} (h : r < 9218868437227405312) (K : Nat) (hK : K = 2098) : fmag r < 2 ^ K := by
 obtain ⟨J, hJ⟩ : ∃ J : Nat, J = 2046 := ⟨_, rfl⟩
 have e1 := fmag_make 4503599627370496 J (by omega) (by omega)
 rw [show J * 4503599627370496 + 4503599627370496 = 9218868437227405312 by rw [hJ]] at e1
 have := fmag_step h
 rw [e1, show (4503599627370496 : Nat) = 2 ^ 52 from rfl, ← Nat.pow_add, show 52 + J = K by omega] at this
 exact this
theorem ldexp_rep {y D u : Nat} (h0 : 0 < y) (hy : y < 9218868437227405312) (hu : u < 9218868437227405312) (h : fmag u = fmag y * 2 ^ D) (w : World) :
  Cq 344 #[.float .f64 y, .int .i64 (D : Nat)] (.float .f64 u) w := by
 obtain ⟨K, hK⟩ : ∃ K : Nat, K = 2098 := ⟨_, rfl⟩
 have hDK : D < K := by
  have h1 := fmag_inf hu K hK
  have h2 := fmag_pos.2 h0
  have h3 : 1 * 2 ^ D ≤ fmag y * 2 ^ D := Nat.mul_le_mul_right _ h2
  exact (Nat.pow_lt_pow_iff_right (a := 2) (by omega)).1 (by omega)
 by_cases hn : 4503599627370496 ≤ y
 ·have h1 := fmag_up (D := D) hn
  rw [← h] at h1
  have h2 := fmag_inj h1
  have h3 := ldexpl_any y D w hn hy (by omega)
  have h4 : scl y D = u := by unfold scl; rw [if_pos (by omega)]; exact h2
  rw [h4] at h3
  exact h3
 ·obtain ⟨z, c, M, k, hnf⟩ := nf_of h0 hy
  rcases hnf.way with ⟨_, h1⟩ | ⟨rfl, _, h1⟩
  ·have := hnf.hz; have := hnf.lo; omega
  ·have a1 := hnf.lo
   have a2 := hnf.hi
   have a3 := hnf.hz
   have a4 := hnf.top
   have a5 := hnf.hc
   have hU : fmag u * 2 ^ 52 = M * 2 ^ (D + k) := by
    rw [h, Nat.mul_assoc, Nat.mul_comm (2 ^ D), ← Nat.mul_assoc, a5, Nat.mul_assoc, ← Nat.pow_add, Nat.add_comm k D]
   by_cases hd : 52 ≤ D + k
   ·obtain ⟨d, hd2⟩ : ∃ d, D + k = d + 52 := ⟨D + k - 52, by omega⟩
    rw [hd2] at hU
    have h2 : M * 2 ^ d = fmag u := pow_cancel (x := M) (y := fmag u) hU.symm
    rw [← fmag_make M d a1 a2] at h2
    have h3 := fmag_inj h2
    exact ldexp_sub_n y h0 (by omega) h1 a1 a2 a3 a4 (by omega) hd (by omega) (by rw [show D + k - 52 = d by omega]; exact h3.symm) w
   ·refine ldexp_sub_d (u := (D + k + 1) * 4503599627370496 + M) y h0 (by omega) h1 a1 a2 a3 a4 (by omega) rfl ?_ w
    obtain ⟨J, hJ⟩ : ∃ J : Nat, J = 969 := ⟨_, rfl⟩
    obtain ⟨L, hL⟩ : ∃ L : Nat, L = 1074 := ⟨_, rfl⟩
    have e1 := fmag_make 4503599627370496 J (by omega) (by omega)
    rw [show J * 4503599627370496 + 4503599627370496 = 4368491638549381120 by rw [hJ]] at e1
    refine mul_exact (K := L) (by omega) (by omega) hu hL ?_
    have h2 : fmag u * 2 ^ L = fmag u * 2 ^ 52 * 2 ^ (J + 53) := by rw [Nat.mul_assoc, ← Nat.pow_add, show 52 + (J + 53) = L by omega]
    rw [e1, fmag_make _ _ a1 a2, h2, hU, show (4503599627370496 : Nat) = 2 ^ 52 from rfl, ← Nat.pow_add, Nat.mul_left_comm, ← Nat.pow_add, Nat.mul_assoc, ← Nat.pow_add, show 52 + J + (D + k + 1) = D + k + (J + 53) by omega]
theorem Ldexp_rep {y D u : Nat} (h0 : 0 < y) (hy : y < 9218868437227405312) (hu : u < 9218868437227405312) (h : fmag u = fmag y * 2 ^ D) (w : World) :
  Cq 312 #[.float .f64 y, .int .i64 (D : Nat)] (.float .f64 u) w := by
 have C := Lib.hid (ldexp_rep h0 hy hu h w)
 clear h0 hy hu h
 go_enter Tryz.func312, Tryz.ntmps312
 go_wp2_with fail
 refine C.out.mono ?_
 rintro e w' ⟨rfl, rfl⟩
 go_wp2
 go_ret
 exact ⟨rfl, rfl⟩

open Go.RowKit
open Go.RowKit
end
section
open Go.RowKit
theorem ldexp_down_n {M k D : Nat} (x u : Nat) (a1 : 4503599627370496 ≤ M) (a2 : M < 9007199254740992) (hx : x = k * 4503599627370496 + M) (h2 : x < 9218868437227405312) (hD : D ≤ k) (hu : u = (k - D) * 4503599627370496 + M) (w : World) :
  Cq 344 #[.float .f64 x, .int .i64 (-(D : Int))] (.float .f64 u) w := by
 have h1 : 4503599627370496 ≤ x := by omega
 obtain ⟨p1, p2, p3⟩ := pos_rung (x := x) (by omega)
 have C1 := Lib.hid (fun W => isNaN_any x W)
 have C2 := Lib.hid (fun W => isInf0_any x W (by omega))
 rw [show fnan x = false from by unfold fnan; rw [p1]; exact decide_eq_false (by omega)] at C1
 rw [show finf x = false from by unfold finf; rw [p1]; exact decide_eq_false (by omega)] at C2
 have C3 := Lib.hid (fun W => normalize_any x W h1 h2)
 have h3 := ord_zero x
 rw [p1, decide_eq_false (by omega)] at h3
 have h5 := f64bits_run x w
 have h6 := not_exp x (by omega)
 obtain ⟨t, ht2⟩ : ∃ t, M = 4503599627370496 + t := ⟨M - 4503599627370496, by omega⟩
 rw [show x % 4503599627370496 = t by omega] at h6
 have h7 := and_2047 (k + 1) (by omega)
 obtain ⟨Q, hQ⟩ : ∃ Q, k + 1 - D = Q := ⟨_, rfl⟩
 have h8 := or_exp t Q (by omega) (by omega)
 have e8 : t + Q * 4503599627370496 = u := by
  rw [hu, ht2, ← hQ, show k + 1 - D = (k - D) + 1 by omega]; omega
 rw [e8] at h8
 have h9 := f64from_run u w
 have h10 := one_mul (y := u) (by omega) (by omega)
 have h11 : (binOp BinOp.mul 22 (.float .f64 4607182418800017408) (.float .f64 u)).run Tryz.prog w = .ok (.float .f64 u) w := run_float_arith _ _ _ _ _ _ _ h10
 have k1 : (x : Int) / 4503599627370496 = ((k + 1 : Nat) : Int) := by omega
 have k2 : IntKind.i64.wrap ((k + 1 : Nat) : Int) = ((k + 1 : Nat) : Int) := IntWalk.i64_in _ (by omega)
 have k3 : IntKind.i64.wrap (((k + 1 : Nat) : Int) - 1023) = (k : Int) - 1022 := by rw [IntWalk.i64_in _ (by omega)]; omega
 obtain ⟨X0, hX0⟩ : ∃ X0, -(D : Int) = X0 := ⟨_, rfl⟩
 have k4 : IntKind.i64.wrap X0 = X0 := IntWalk.i64_in _ (by omega)
 have k4' : IntKind.i64.wrap (X0 + 0) = X0 := by rw [Int.add_zero]; exact k4
 have k5 : IntKind.i64.wrap (X0 + ((k : Int) - 1022)) = (Q : Int) - 1023 := by rw [IntWalk.i64_in _ (by omega)]; omega
 have k6 : IntKind.i64.wrap ((Q : Int) - 1023 + 1023) = (Q : Int) := by rw [IntWalk.i64_in _ (by omega)]; omega
 have k7 : IntKind.u64.wrap (Q : Int) = (Q : Int) := by rw [IntKind.wrap_u64]; omega
 have k8 : IntKind.u64.wrap ((Q : Int) * 4503599627370496) = ((Q * 4503599627370496 : Nat) : Int) := by rw [IntKind.wrap_u64]; omega
 have t1 : decide ((Q : Int) - 1023 < -1075) = false := decide_eq_false (by omega)
 have t2 : decide (1023 < (Q : Int) - 1023) = false := decide_eq_false (by omega)
 have t3 : decide ((Q : Int) - 1023 < -1022) = false := decide_eq_false (by omega)
 obtain ⟨q, hq⟩ : ∃ q, k + 1 = q := ⟨_, rfl⟩
 obtain ⟨X1, hX1⟩ : ∃ X1, (k : Int) - 1022 = X1 := ⟨_, rfl⟩
 obtain ⟨X3, hX3⟩ : ∃ X3, (Q : Int) - 1023 = X3 := ⟨_, rfl⟩
 rw [hq] at h7 k1 k2 k3
 rw [hX1] at k3 k5
 rw [hX3] at k5 k6 t1 t2 t3
 rw [hX0]
 rw [← k8] at h8
 clear h1 h2 hx a1 a2 hD hu p1 p2 p3 ht2 hQ e8 h10 k8 hq hX1 hX0 hX3
 go_enter Tryz.func344, Tryz.ntmps344
 go_wp2_with fail
 refine (C2.out _).mono ?_
 rintro e w' ⟨rfl, rfl⟩
 go_wp2_with fail
 refine (C1.out _).mono ?_
 rintro e w' ⟨rfl, rfl⟩
 go_wp2_with fail
 refine (C3.out _).mono ?_
 rintro e w' ⟨rfl, rfl⟩
 go_wp2
 go_ret
 exact ⟨rfl, rfl⟩
theorem ldexp_down_d {M k D : Nat} (x v r : Nat) (a1 : 4503599627370496 ≤ M) (a2 : M < 9007199254740992) (hx : x = k * 4503599627370496 + M) (h2 : x < 9218868437227405312) (hD : k < D) (hD2 : D ≤ k + 52) (hv : v = (k + 53 - D) * 4503599627370496 + M) (hr : Ieee.double.mul 4368491638549381120 v = some r) (w : World) :
  Cq 344 #[.float .f64 x, .int .i64 (-(D : Int))] (.float .f64 r) w := by
 have h1 : 4503599627370496 ≤ x := by omega
 obtain ⟨p1, p2, p3⟩ := pos_rung (x := x) (by omega)
 have C1 := Lib.hid (fun W => isNaN_any x W)
 have C2 := Lib.hid (fun W => isInf0_any x W (by omega))
 rw [show fnan x = false from by unfold fnan; rw [p1]; exact decide_eq_false (by omega)] at C1
 rw [show finf x = false from by unfold finf; rw [p1]; exact decide_eq_false (by omega)] at C2
 have C3 := Lib.hid (fun W => normalize_any x W h1 h2)
 have h3 := ord_zero x
 rw [p1, decide_eq_false (by omega)] at h3
 have h5 := f64bits_run x w
 have h6 := not_exp x (by omega)
 obtain ⟨t, ht2⟩ : ∃ t, M = 4503599627370496 + t := ⟨M - 4503599627370496, by omega⟩
 rw [show x % 4503599627370496 = t by omega] at h6
 have h7 := and_2047 (k + 1) (by omega)
 obtain ⟨Q, hQ⟩ : ∃ Q, k + 54 - D = Q := ⟨_, rfl⟩
 have h8 := or_exp t Q (by omega) (by omega)
 have e8 : t + Q * 4503599627370496 = v := by
  rw [hv, ht2, ← hQ, show k + 54 - D = (k + 53 - D) + 1 by omega]; omega
 rw [e8] at h8
 have h9 := f64from_run v w
 have h11 : (binOp BinOp.mul 22 (.float .f64 4368491638549381120) (.float .f64 v)).run Tryz.prog w = .ok (.float .f64 r) w := run_float_arith _ _ _ _ _ _ _ hr
 have k1 : (x : Int) / 4503599627370496 = ((k + 1 : Nat) : Int) := by omega
 have k2 : IntKind.i64.wrap ((k + 1 : Nat) : Int) = ((k + 1 : Nat) : Int) := IntWalk.i64_in _ (by omega)
 have k3 : IntKind.i64.wrap (((k + 1 : Nat) : Int) - 1023) = (k : Int) - 1022 := by rw [IntWalk.i64_in _ (by omega)]; omega
 obtain ⟨X0, hX0⟩ : ∃ X0, -(D : Int) = X0 := ⟨_, rfl⟩
 have k4 : IntKind.i64.wrap X0 = X0 := IntWalk.i64_in _ (by omega)
 have k4' : IntKind.i64.wrap (X0 + 0) = X0 := by rw [Int.add_zero]; exact k4
 have k5 : IntKind.i64.wrap (X0 + ((k : Int) - 1022)) = (Q : Int) - 1076 := by rw [IntWalk.i64_in _ (by omega)]; omega
 have k9 : IntKind.i64.wrap ((Q : Int) - 1076 + 53) = (Q : Int) - 1023 := by rw [IntWalk.i64_in _ (by omega)]; omega
 have k6 : IntKind.i64.wrap ((Q : Int) - 1023 + 1023) = (Q : Int) := by rw [IntWalk.i64_in _ (by omega)]; omega
 have k7 : IntKind.u64.wrap (Q : Int) = (Q : Int) := by rw [IntKind.wrap_u64]; omega
 have k8 : IntKind.u64.wrap ((Q : Int) * 4503599627370496) = ((Q * 4503599627370496 : Nat) : Int) := by rw [IntKind.wrap_u64]; omega
 have t1 : decide ((Q : Int) - 1076 < -1075) = false := decide_eq_false (by omega)
 have t2 : decide (1023 < (Q : Int) - 1076) = false := decide_eq_false (by omega)
 have t3 : decide ((Q : Int) - 1076 < -1022) = true := decide_eq_true (by omega)
 obtain ⟨q, hq⟩ : ∃ q, k + 1 = q := ⟨_, rfl⟩
 obtain ⟨X1, hX1⟩ : ∃ X1, (k : Int) - 1022 = X1 := ⟨_, rfl⟩
 obtain ⟨X3, hX3⟩ : ∃ X3, (Q : Int) - 1076 = X3 := ⟨_, rfl⟩
 obtain ⟨X4, hX4⟩ : ∃ X4, (Q : Int) - 1023 = X4 := ⟨_, rfl⟩
 rw [hq] at h7 k1 k2 k3
 rw [hX1] at k3 k5
 rw [hX3] at k5 k9 t1 t2 t3
 rw [hX4] at k9 k6
 rw [hX0]
 rw [← k8] at h8
 clear h1 h2 hx a1 a2 hD hD2 hv hr p1 p2 p3 ht2 hQ e8 k8 hq hX1 hX0 hX3 hX4
 go_enter Tryz.func344, Tryz.ntmps344
 go_wp2_with fail
 refine (C2.out _).mono ?_
 rintro e w' ⟨rfl, rfl⟩
 go_wp2_with fail
 refine (C1.out _).mono ?_
 rintro e w' ⟨rfl, rfl⟩
 go_wp2_with fail
 refine (C3.out _).mono ?_
 rintro e w' ⟨rfl, rfl⟩
 go_wp2
 go_ret
 exact ⟨rfl, rfl⟩
theorem ldexp_down {y D u : Nat} (h0 : 4503599627370496 ≤ y) (hy : y < 9218868437227405312) (hu0 : 0 < u) (h : fmag u * 2 ^ D = fmag y) (w : World) :
  Cq 344 #[.float .f64 y, .int .i64 (-(D : Int))] (.float .f64 u) w := by
 obtain ⟨M, k, a1, a2, a3, a4⟩ := fmag_split h0
 have hu1 := fmag_pos.2 hu0
 have huy : u ≤ y := by
  rcases Nat.lt_or_ge y u with h1 | h1
  ·have h2 := fmag_step h1
   have h3 : fmag u * 1 ≤ fmag u * 2 ^ D := Nat.mul_le_mul_left _ (Nat.two_pow_pos D)
   omega
  ·exact h1
 by_cases hDk : D ≤ k
 ·refine ldexp_down_n y u a1 a2 a3 hy hDk ?_ w
  refine fmag_inj ?_
  rw [fmag_make _ _ a1 a2]
  refine (pow_cancel (x := M) (a := k - D) (b := D) (y := fmag u) ?_).symm
  rw [show k - D + D = k by omega, ← a4, h]
 ·obtain ⟨j, rfl⟩ : ∃ j, D = k + j := ⟨D - k, by omega⟩
  have hM : fmag u * 2 ^ j = M := by
   refine pow_cancel (x := fmag u) (a := j) (b := k) (y := M) ?_
   rw [Nat.add_comm j k, h, a4]
  have hj : j < 53 := by
   have h3 : 1 * 2 ^ j ≤ fmag u * 2 ^ j := Nat.mul_le_mul_right _ hu1
   have h6 : 2 ^ j < 2 ^ 53 := by have : (2 : Nat) ^ 53 = 9007199254740992 := rfl; omega
   exact (Nat.pow_lt_pow_iff_right (a := 2) (by omega)).1 h6
  refine ldexp_down_d y ((k + 53 - (k + j)) * 4503599627370496 + M) u a1 a2 a3 hy (by omega) (by omega) rfl ?_ w
  obtain ⟨J, hJ⟩ : ∃ J : Nat, J = 969 := ⟨_, rfl⟩
  obtain ⟨L, hL⟩ : ∃ L : Nat, L = 1074 := ⟨_, rfl⟩
  have e1 := fmag_make 4503599627370496 J (by omega) (by omega)
  rw [show J * 4503599627370496 + 4503599627370496 = 4368491638549381120 by rw [hJ]] at e1
  refine mul_exact (K := L) (by omega) (by omega) (by omega) hL ?_
  rw [e1, fmag_make _ _ a1 a2, ← hM, show (4503599627370496 : Nat) = 2 ^ 52 from rfl, ← Nat.pow_add, Nat.mul_comm, Nat.mul_assoc, Nat.mul_assoc, ← Nat.pow_add, ← Nat.pow_add, show j + (k + 53 - (k + j) + (52 + J)) = L by omega]
theorem Ldexp_down {y D u : Nat} (h0 : 4503599627370496 ≤ y) (hy : y < 9218868437227405312) (hu0 : 0 < u) (h : fmag u * 2 ^ D = fmag y) (w : World) :
  Cq 312 #[.float .f64 y, .int .i64 (-(D : Int))] (.float .f64 u) w := by
 have C := Lib.hid (ldexp_down h0 hy hu0 h w)
 obtain ⟨X, hX⟩ : ∃ X, -(D : Int) = X := ⟨_, rfl⟩
 rw [hX] at C ⊢
 clear h0 hy hu0 h hX
 go_enter Tryz.func312, Tryz.ntmps312
 go_wp2_with fail
 refine C.out.mono ?_
 rintro e w' ⟨rfl, rfl⟩
 go_wp2
 go_ret
 exact ⟨rfl, rfl⟩
open Go.RowKit
open Go.RowKit
open Go.RowKit
open Go.RowKit
theorem fl_upto {N K : Nat} (h : N ≤ 9007199254740992) (hK : K = 1074) : fl N < 9218868437227405312 ∧ fmag (fl N) = N * 2 ^ K := by
 rcases Nat.eq_or_lt_of_le h with h1 | h1
 ·rw [h1, show fl 9007199254740992 = 4845873199050653696 by decide +kernel]
  refine ⟨by omega, ?_⟩
  obtain ⟨d, hd⟩ : ∃ d : Nat, d = 1075 := ⟨_, rfl⟩
  have := fmag_make 4503599627370496 d (by omega) (by omega)
  rw [show d * 4503599627370496 + 4503599627370496 = 4845873199050653696 by omega] at this
  rw [this, show d = K + 1 by omega, Nat.pow_succ, Nat.mul_comm (2 ^ K) 2, ← Nat.mul_assoc]
 ·obtain ⟨a, b⟩ := fmag_fl h1 hK
  exact ⟨b, a⟩
theorem rung_make {D E : Nat} (hE : E ≤ 9007199254740992) (hD : D = 0 ∨ 4503599627370496 ≤ E) : fmag (D * 4503599627370496 + E) = E * 2 ^ D := by
 rcases Nat.eq_or_lt_of_le hE with h | h
 ·rw [h, show D * 4503599627370496 + 9007199254740992 = (D + 1) * 4503599627370496 + 4503599627370496 by omega, fmag_make _ _ (by omega) (by omega), Nat.pow_succ, Nat.mul_comm (2 ^ D) 2, ← Nat.mul_assoc]
 ·rcases hD with h0 | h0
  ·rw [h0, Nat.zero_mul, Nat.zero_add, Nat.pow_zero, Nat.mul_one]; exact fmag_low h
  ·exact fmag_make _ _ h0 h
theorem Ld_make {E D : Nat} {e' : Int} (hE : E ≤ 9007199254740992) (hD : D = 0 ∨ 4503599627370496 ≤ E) (hD2 : D ≤ 2045) (he : e' = (D : Int) - 1074) (w : World) : Cq 312 #[.float .f64 (fl E), .int .i64 e'] (.float .f64 (min (D * 4503599627370496 + E) 9218868437227405312)) w := by
 obtain ⟨K, hK⟩ : ∃ K : Nat, K = 1074 := ⟨_, rfl⟩
 obtain ⟨y1, y2⟩ := fl_upto hE hK
 have hmk := rung_make hE hD
 rcases Nat.eq_zero_or_pos E with h0 | h0
 ·subst h0
  have : D = 0 := by omega
  subst this
  rw [fl_zero]
  exact ldexp_zero e' w
 ·have hy0 : 0 < fl E := fmag_pos.1 (by rw [y2]; exact Nat.mul_pos h0 (Nat.two_pow_pos K))
  have hyn : 4503599627370496 ≤ fl E := by
   rcases Nat.lt_or_ge (fl E) 4503599627370496 with h | h
   ·have h1 := fmag_low (r := fl E) (by omega)
    rw [y2] at h1
    have h2 : 1 * 2 ^ K ≤ E * 2 ^ K := Nat.mul_le_mul_right _ h0
    have h3 : 2 ^ 60 ≤ 2 ^ K := Nat.pow_le_pow_right (by omega) (by omega)
    have h4 : (2 : Nat) ^ 60 = 1152921504606846976 := by decide
    omega
   ·exact h
  rcases Nat.lt_or_ge (D * 4503599627370496 + E) 9218868437227405312 with h | h
  ·rw [Nat.min_eq_left (by omega)]
   rcases Nat.lt_or_ge D K with h1 | h1
   ·obtain ⟨j, hj⟩ : ∃ j, K = D + j := ⟨K - D, by omega⟩
    have := Ldexp_down (y := fl E) (D := j) (u := D * 4503599627370496 + E) hyn y1 (by omega) (by rw [hmk, y2, hj, Nat.pow_add, Nat.mul_assoc]) w
    rw [show e' = -(j : Int) by omega]
    exact this
   ·obtain ⟨j, hj⟩ : ∃ j, D = K + j := ⟨D - K, by omega⟩
    have := Ldexp_rep (y := fl E) (D := j) (u := D * 4503599627370496 + E) hy0 y1 h (by rw [hmk, y2, hj, Nat.pow_add, Nat.mul_assoc]) w
    rw [show e' = (j : Int) by omega]
    exact this
  ·rw [Nat.min_eq_right h]
   have hD3 : D = 2045 := by omega
   have hE3 : E = 9007199254740992 := by omega
   have := ldexp_any (fl E) 971 w hyn y1 (by omega)
   rw [show scl (fl E) 971 = 9218868437227405312 from by rw [hE3, show fl 9007199254740992 = 4845873199050653696 by decide +kernel]; decide] at this
   rw [show e' = ((971 : Nat) : Int) by omega]
   exact this
end
section
open Go.RowKit
structure NV (w : World) (A : Option Addr) (n c v : Nat) : Prop where
 len : (wds v).length = n
 cap : n ≤ c
 row : RW w w.heap.size A (wds v)
theorem NV.step {w w' : World} {A : Option Addr} {n c v : Nat} (h : NV w A n c v) (hb : Below w.heap.size w w') : NV w' A n c v := ⟨h.len, h.cap, h.row.step hb⟩
def bln (v : Nat) : Nat := btl (wds v)
theorem wds_nil {v : Nat} (h : 0 < v) : nrm (wds v) ≠ [] := by
 intro e
 have := nrm_eq_nil e
 rw [wds_val] at this
 omega
theorem bln_bounds {v : Nat} (h : 0 < v) : 2 ^ (bln v - 1) ≤ v ∧ v < 2 ^ bln v ∧ 0 < bln v := by
 have := btl_bounds (wds_ws v) (wds_nil h)
 rw [wds_val] at this
 exact this
theorem bln_zero : bln 0 = 0 := by decide
theorem bln_le {v L : Nat} (h : v < 2 ^ L) : bln v ≤ L := by
 rcases Nat.eq_zero_or_pos v with h0 | h0
 ·rw [h0, bln_zero]; omega
 ·have h1 := (bln_bounds h0).1
  have h2 := (Nat.pow_lt_pow_iff_right (a := 2) (by omega)).1 (Nat.lt_of_le_of_lt h1 h)
  omega
theorem len_bits {v L : Nat} (h : v < 2 ^ (32 * L)) : (wds v).length ≤ L := by
 refine wds_len_lt ?_
 rw [show (4294967296 : Nat) = 2 ^ 32 from rfl, ← Nat.pow_mul]
 exact h
theorem small_len {v : Nat} (h : bln v ≤ 30000) : (wds v).length ≤ 940 := by
 obtain ⟨L, hL⟩ : ∃ L : Nat, L = 940 := ⟨_, rfl⟩
 rw [← hL]
 rcases Nat.eq_zero_or_pos v with h0 | h0
 ·rw [h0]; show 0 ≤ L; omega
 ·exact len_bits (Nat.lt_of_lt_of_le (bln_bounds h0).2.1 (Nat.pow_le_pow_right (by omega) (by omega)))
theorem lng_bln {v : Nat} (h : bln v ≤ 30000) : lngB v = false := by
 unfold lngB
 have := small_len h
 exact decide_eq_false (by omega)
theorem bln_mul (a b : Nat) : bln (a * b) ≤ bln a + bln b := by
 rcases Nat.eq_zero_or_pos a with h0 | h0
 ·rw [h0, Nat.zero_mul, bln_zero]; omega
 rcases Nat.eq_zero_or_pos b with h1 | h1
 ·rw [h1, Nat.mul_zero, bln_zero]; omega
 ·refine bln_le ?_
  rw [Nat.pow_add]
  exact Nat.mul_lt_mul'' (bln_bounds h0).2.1 (bln_bounds h1).2.1
theorem bln_mono {a b : Nat} (h : a ≤ b) : bln a ≤ bln b := by
 rcases Nat.eq_zero_or_pos b with h0 | h0
 ·have : a = 0 := by omega
  rw [this, h0]; omega
 ·exact bln_le (Nat.lt_of_le_of_lt h (bln_bounds h0).2.1)
theorem bln_pow2 (k : Nat) : bln (2 ^ k) ≤ k + 1 := bln_le (by rw [Nat.pow_succ]; have := Nat.two_pow_pos k; omega)
theorem bln_pow (b k : Nat) : bln (b ^ k) ≤ bln b * k + 1 := by
 rcases Nat.eq_zero_or_pos b with h0 | h0
 ·cases k with
  | zero => rw [Nat.pow_zero, show bln 1 = 1 by decide]; omega
  | succ k => rw [h0, Nat.zero_pow (by omega), bln_zero]; omega
 ·refine bln_le ?_
  have h1 := (bln_bounds h0).2.1
  have h2 : b ^ k ≤ (2 ^ bln b) ^ k := Nat.pow_le_pow_left (Nat.le_of_lt h1) k
  rw [← Nat.pow_mul] at h2
  rw [Nat.pow_succ]
  have := Nat.two_pow_pos (bln b * k)
  omega
theorem bln_five (k : Nat) : bln (5 ^ k) ≤ 3 * k + 1 := by have := bln_pow 5 k; rw [show bln 5 = 3 by decide] at this; exact this
theorem bln_ten (k : Nat) : bln (10 ^ k) ≤ 4 * k + 1 := by have := bln_pow 10 k; rw [show bln 10 = 4 by decide] at this; exact this
/-! ### The program's functions -/
def NOk (v : Nat) (w : World) (e : Ending) (w' : World) : Prop := ∃ A n c, e = .returned (.tuple #[.slice A n c, .int .i64 0]) ∧ NV w' A n c v ∧ Below w.heap.size w w'
theorem NOk.of {v : Nat} {w w' : World} {e : Ending} (hl : lngB v = false) (h : NatPost v w e w') : NOk v w e w' := by
 obtain ⟨A, n, c, k, he, hp, hb⟩ := h
 rw [if_neg (by rw [hl]; simp)] at hp
 obtain ⟨h1, h2, h3, h4⟩ := hp
 subst h3
 exact ⟨A, n, c, he, ⟨h1.symm, h2, h4⟩, hb⟩
theorem nmul {w : World} {A C : Option Addr} {n c m d a b : Nat} (hA : NV w A n c a) (hB : NV w C m d b) (ha : bln a ≤ 15000) (hb : bln b ≤ 15000) :
  Cp 338 #[.slice A n c, .slice C m d] w (NOk (a * b) w) := by
 have la := lng_bln (v := a) (by omega)
 have lb := lng_bln (v := b) (by omega)
 have lab := lng_bln (v := a * b) (Nat.le_trans (bln_mul a b) (by omega))
 have h1 := small_len (v := a) (by omega)
 have h2 := small_len (v := b) (by omega)
 rw [hA.len] at h1
 rw [hB.len] at h2
 have := mul_any A C n c m d (wds a) (wds b) w hA.len hA.cap (by omega) hA.row hB.len hB.cap (by omega) hB.row
 rw [wds_val, wds_val] at this
 refine this.mono fun e w' x => ?_
 unfold MulPost at x
 rw [if_neg (by rw [la, lb]; simp)] at x
 exact NOk.of lab x
theorem npow (b n : Nat) (w : World) (hb : b < 4294967296) (hl : bln (b ^ n) ≤ 30000) (hn : n < 100000) : Cp 337 #[.int .u32 b, .int .i64 n] w (NOk (b ^ n) w) :=
 (pow_any b n w hb (by omega)).mono fun e w' x => NOk.of (lng_bln hl) x
theorem nshl {w : World} {A : Option Addr} {n c a : Nat} (hA : NV w A n c a) (p : Nat) (ha : bln a + p ≤ 29000) : Cp 340 #[.slice A n c, .int .i64 p] w (NOk (a * 2 ^ p) w) := by
 have la := lng_bln (v := a) (by omega)
 have h1 := small_len (v := a) (by omega)
 rw [hA.len] at h1
 have hp := bln_pow2 p
 have lab := lng_bln (v := a * 2 ^ p) (Nat.le_trans (bln_mul a _) (by omega))
 have := pshl_any A n c p (wds a) w hA.len hA.cap (by omega) hA.row
 rw [wds_val] at this
 refine this.mono fun e w' x => ?_
 unfold ShlQ at x
 rw [if_neg (by rw [la]; simp), if_neg (by omega), Int.toNat_natCast] at x
 exact NOk.of lab x
def DOk (a b : Nat) (w : World) (e : Ending) (w' : World) : Prop := ∃ A n c C m d, e = .returned (.tuple #[.slice A n c, .slice C m d, .int .i64 0]) ∧ NV w' A n c (a / b) ∧ NV w' C m d (a % b) ∧ Below w.heap.size w w'
theorem ndiv {w : World} {A C : Option Addr} {n c m d a b : Nat} (hA : NV w A n c a) (hB : NV w C m d b) (ha : bln a ≤ 30000) (hb : bln b ≤ 30000) (h0 : 0 < b) :
  Cp 341 #[.slice A n c, .slice C m d] w (DOk a b w) := by
 have la := lng_bln (v := a) (by omega)
 have lb := lng_bln (v := b) (by omega)
 have h1 := small_len (v := a) (by omega)
 have h2 := small_len (v := b) (by omega)
 rw [hA.len] at h1
 rw [hB.len] at h2
 have := div_any A C n c m d (wds a) (wds b) w hA.len hA.cap (by omega) hA.row hB.len hB.cap (by omega) hB.row
 rw [wds_val, wds_val] at this
 refine this.mono fun e w' x => ?_
 have hlb : (lngB a || lngB b) = false := by rw [la, lb]; rfl
 obtain ⟨A2, n2, c2, C2, m2, d2, he, ⟨x1, x2, x3, x4, x5, x6⟩, hbw⟩ := x
 have hB2 := divB_ok hlb h0
 unfold divQ at x1 x5
 unfold divR at x3 x6
 rw [if_pos hB2] at x1 x5 x3 x6
 have hk : divK a b = 0 := by unfold divK; rw [if_neg (by rw [hlb]; simp), if_neg (by omega)]
 rw [hk] at he
 exact ⟨A2, n2, c2, C2, m2, d2, he, ⟨x1.symm, x2, x5⟩, ⟨x3.symm, x4, x6⟩, hbw⟩
theorem nbits {w : World} {A : Option Addr} {n c a : Nat} (hA : NV w A n c a) (ha : bln a ≤ 30000) : Cq 305 #[.slice A n c] (.int .i64 (bln a : Nat)) w := by
 have h1 := small_len (v := a) (by omega)
 rw [hA.len] at h1
 exact bits_any A n c (wds a) w.heap.size w hA.len hA.cap (by omega) hA.row
def NRet (v : Nat) (w : World) (e : Ending) (w' : World) : Prop := ∃ A n c, e = .returned (.slice A n c) ∧ NV w' A n c v ∧ Below w.heap.size w w'
theorem NRet.of {v : Nat} {w w' : World} {e : Ending} (h : SlPost (wds v) w e w') : NRet v w e w' := by
 obtain ⟨V, he, ⟨A, c, hv, hc, hr⟩, hb⟩ := h
 subst hv
 exact ⟨A, _, c, he, ⟨rfl, hc, hr⟩, hb⟩
theorem nof (n : Nat) (hn : n < 18446744073709551616) (w : World) : Cp 304 #[.int .u64 n] w (NRet n w) :=
 (of_any n hn w).mono fun e w' x => NRet.of (by rw [two_wds n hn] at x; exact x)
/-! ### The reference's functions -/
end
section
theorem two_pos (k : Nat) : 0 < 2 ^ k := Nat.two_pow_pos k
theorem big_place {N n q t A B D : Nat} (hq : N = q * n + t) (hn : 0 < n) (hD : rplace (N * 2 ^ A) (2 ^ B * n) = D) (hbig : 2 ^ 60 ≤ q) : A + 7 ≤ D + B := by
 have s2 := (rplace_spec (Nat.mul_pos (two_pos B) hn) hD).2
 rcases Nat.lt_or_ge (D + B) (A + 7) with h | h
 ·exfalso
  have h1 : 2 ^ 60 * n ≤ N := by
   have := Nat.mul_le_mul_right n hbig
   omega
  have h2 : 2 ^ 60 * n * 2 ^ A ≤ N * 2 ^ A := Nat.mul_le_mul_right _ h1
  have h3 : 2 ^ D * 2 ^ B ≤ 2 ^ (A + 6) := by rw [← Nat.pow_add]; exact Nat.pow_le_pow_right (by omega) (by omega)
  have h4 : (2 : Nat) ^ (A + 6) = 2 ^ A * 64 := by rw [Nat.pow_add]
  have h5 : 9007199254740992 * 2 ^ D * (2 ^ B * n) = 9007199254740992 * (2 ^ D * 2 ^ B) * n := by grind
  rw [h5] at s2
  have h6 : 9007199254740992 * (2 ^ D * 2 ^ B) * n ≤ 9007199254740992 * (2 ^ A * 64) * n := Nat.mul_le_mul_right _ (Nat.mul_le_mul_left _ (by omega))
  have h7 : (2 : Nat) ^ 60 = 1152921504606846976 := by decide
  rw [h7] at h2
  have hP := two_pos A
  generalize 2 ^ A = P at *
  have h8 : 9007199254740992 * (P * 64) * n = 576460752303423488 * (n * P) := by grind
  have h9 : 1152921504606846976 * n * P = 1152921504606846976 * (n * P) := Nat.mul_assoc _ _ _
  omega
 ·exact h
theorem decR_near {m N n q t s : Nat} {ten last : Int} (hN : N = m * 5 ^ ten.toNat * 2 ^ (ten - last).toNat) (hn : n = 5 ^ (-ten).toNat * 2 ^ (last - ten).toNat) (hq : N = q * n + t) (ht : t < n) (hs : s = if t = 0 then 0 else 1) (hbig : last = -1076 ∨ 2 ^ 60 ≤ q) :
  decR m ten = rnd ((q ||| s) * 2 ^ (last + 1074).toNat) (2 ^ (-(last + 1074)).toNat) := by
 obtain ⟨K, hK, hd⟩ := decR_K
 obtain ⟨A, hA⟩ : ∃ A, (last + 1074).toNat = A := ⟨_, rfl⟩
 obtain ⟨B, hB⟩ : ∃ B, (-(last + 1074)).toNat = B := ⟨_, rfl⟩
 have hn0 : 0 < n := by omega
 obtain ⟨D, hD⟩ : ∃ D, rplace (N * 2 ^ A) (2 ^ B * n) = D := ⟨_, rfl⟩
 have key : A + 2 ≤ D + B := by
  rcases hbig with h | h
  ·omega
  ·have := big_place hq hn0 hD h
   omega
 obtain ⟨d, hd2⟩ : ∃ d, D + B = A + d := ⟨D + B - A, by omega⟩
 rw [hA, hB, (rnd_quot hn0 hq ht hs hD hd2 (by omega)).2 (by omega), hd]
 refine rnd_cross (ten_pos _) (Nat.mul_pos (two_pos B) hn0) ?_
 rw [hN, hn, show (10 : Nat) = 5 * 2 from rfl, Nat.mul_pow, Nat.mul_pow]
 have e1 : 2 ^ ten.toNat * 2 ^ K * 2 ^ B * 2 ^ (last - ten).toNat = 2 ^ (ten - last).toNat * 2 ^ A * 2 ^ (-ten).toNat := by
  rw [← Nat.pow_add, ← Nat.pow_add, ← Nat.pow_add, ← Nat.pow_add, ← Nat.pow_add]
  congr 1
  omega
 generalize 5 ^ ten.toNat = f at *
 generalize 5 ^ (-ten).toNat = g at *
 generalize 2 ^ ten.toNat = x1 at *
 generalize 2 ^ K = x2 at *
 generalize 2 ^ B = x3 at *
 generalize 2 ^ (last - ten).toNat = x4 at *
 generalize 2 ^ (ten - last).toNat = y1 at *
 generalize 2 ^ A = y2 at *
 generalize 2 ^ (-ten).toNat = y3 at *
 have a1 : m * (f * x1) * x2 * (x3 * (g * x4)) = m * f * g * (x1 * x2 * x3 * x4) := by grind
 have a2 : m * f * y1 * y2 * (g * y3) = m * f * g * (y1 * y2 * y3) := by grind
 rw [a1, a2, e1]
theorem rnd_drop {n L drop A B D : Nat} (h1 : n < 2 ^ L) (h2 : L = 0 ∨ 2 ^ (L - 1) ≤ n) (hL : L ≤ drop + 53) (h3 : D = 0 ∨ L = drop + 53) (hD : D + B = A + drop) :
  rnd (n * 2 ^ A) (2 ^ B) = min (D * 4503599627370496 + ediv n (2 ^ drop)) 9218868437227405312 ∧ ediv n (2 ^ drop) ≤ 9007199254740992 ∧ (D = 0 ∨ 4503599627370496 ≤ ediv n (2 ^ drop)) := by
 have hP : 2 ^ D * 2 ^ B = 2 ^ A * 2 ^ drop := by rw [← Nat.pow_add, ← Nat.pow_add, hD]
 have hA := two_pos A
 have hd := two_pos drop
 have up : n ≤ 9007199254740992 * 2 ^ drop ∧ n < 9007199254740992 * 2 ^ drop := by
  have : 2 ^ L ≤ 9007199254740992 * 2 ^ drop := by
   rw [show (9007199254740992 : Nat) = 2 ^ 53 from rfl, ← Nat.pow_add]
   exact Nat.pow_le_pow_right (by omega) (by omega)
  omega
 have lo : D = 0 ∨ 4503599627370496 * 2 ^ drop ≤ n := by
  rcases h3 with h | h
  ·exact Or.inl h
  ·refine Or.inr ?_
   rw [show (4503599627370496 : Nat) = 2 ^ 52 from rfl, ← Nat.pow_add, show 52 + drop = L - 1 by omega]
   exact h2.resolve_left (by omega)
 have hp : rplace (n * 2 ^ A) (2 ^ B) = D := by
  refine rplace_of (two_pos B) ?_ ?_
  ·rcases lo with h | h
   ·exact Or.inl h
   ·refine Or.inr ?_
    rw [Nat.mul_assoc, hP]
    have := Nat.mul_le_mul_right (2 ^ A) h
    have e : 4503599627370496 * 2 ^ drop * 2 ^ A = 4503599627370496 * (2 ^ A * 2 ^ drop) := by rw [Nat.mul_assoc, Nat.mul_comm (2 ^ drop)]
    omega
  ·rw [Nat.mul_assoc, hP]
   have := Nat.mul_lt_mul_of_pos_right up.2 hA
   have e : 9007199254740992 * 2 ^ drop * 2 ^ A = 9007199254740992 * (2 ^ A * 2 ^ drop) := by rw [Nat.mul_assoc, Nat.mul_comm (2 ^ drop)]
   omega
 refine ⟨?_, ediv_le hd up.1, ?_⟩
 ·unfold rnd
  rw [hp, hP, Nat.mul_comm (2 ^ A), ediv_scale hA]
 ·rcases lo with h | h
  ·exact Or.inl h
  ·exact Or.inr (ediv_ge hd h)
theorem ediv_half' {n h : Nat} : ediv n (2 * h) = if h < n % (2 * h) ∨ (n % (2 * h) = h ∧ n / (2 * h) % 2 = 1) then n / (2 * h) + 1 else n / (2 * h) := by
 unfold ediv
 generalize n % (2 * h) = r
 generalize n / (2 * h) = q
 by_cases c1 : h < r
 ·rw [if_pos (Or.inl c1), decide_eq_true (by omega), Bool.true_or]; rfl
 ·rw [decide_eq_false (show ¬ 2 * h < 2 * r by omega), Bool.false_or]
  by_cases c2 : r = h
  ·rw [decide_eq_true (by omega), Bool.true_and]
   by_cases c3 : q % 2 = 1
   ·rw [decide_eq_true c3, if_pos (Or.inr ⟨c2, c3⟩)]; rfl
   ·rw [decide_eq_false c3, if_neg (by omega)]; rfl
  ·rw [decide_eq_false (show ¬ 2 * h = 2 * r by omega), Bool.false_and, if_neg (by omega)]; rfl


end
section
def ldz (f : List Nat) : List Nat := f.dropWhile (· == 48)
def trz (f : List Nat) : List Nat := (f.reverse.dropWhile (· == 48)).reverse
theorem ldz_mem {f : List Nat} {c : Nat} (h : c ∈ ldz f) : c ∈ f := (List.dropWhile_sublist _).subset h
theorem trz_mem {f : List Nat} {c : Nat} (h : c ∈ trz f) : c ∈ f := by
 unfold trz at h
 rw [List.mem_reverse] at h
 exact List.mem_reverse.1 ((List.dropWhile_sublist _).subset h)
theorem dropWhile_zeros : ∀ g : List Nat, ∃ z, g = List.replicate z 48 ++ g.dropWhile (· == 48)
 | [] => ⟨0, rfl⟩
 | c :: g => by
  by_cases h : c = 48
  ·subst h
   obtain ⟨z, hz⟩ := dropWhile_zeros g
   refine ⟨z + 1, ?_⟩
   rw [List.dropWhile_cons_of_pos (by simp), List.replicate_succ, List.cons_append, ← hz]
  ·exact ⟨0, by rw [List.dropWhile_cons_of_neg (by simpa using h)]; rfl⟩
theorem trz_zeros (f : List Nat) : ∃ z, f = trz f ++ List.replicate z 48 := by
 obtain ⟨z, hz⟩ := dropWhile_zeros f.reverse
 refine ⟨z, ?_⟩
 have h := congrArg List.reverse hz
 rw [List.reverse_reverse, List.reverse_append, List.reverse_replicate] at h
 exact h
theorem trz_last (f : List Nat) : (trz f).getLast? ≠ some 48 := by
 unfold trz
 rw [List.getLast?_reverse]
 exact lead_head f.reverse
theorem num_trz (f : List Nat) : num 10 f = num 10 (trz f) * 10 ^ (f.length - (trz f).length) := by
 obtain ⟨z, hz⟩ := trz_zeros f
 have hl : f.length - (trz f).length = z := by
  have := congrArg List.length hz
  rw [List.length_append, List.length_replicate] at this
  omega
 have h2 := congrArg (num 10) hz
 rw [num_append, num_zeros, List.length_replicate, Nat.add_zero] at h2
 rw [hl, h2]
theorem trz_len (f : List Nat) : (trz f).length ≤ f.length := by
 obtain ⟨z, hz⟩ := trz_zeros f
 have := congrArg List.length hz
 rw [List.length_append] at this
 omega
theorem num_any_pos {f : List Nat} (hd : ∀ x ∈ f, dg10 x = true) {c : Nat} (hc : c ∈ f) (h : c ≠ 48) : 0 < num 10 f := by
 rcases Nat.eq_zero_or_pos (num 10 f) with h0 | h0
 ·exfalso
  have h1 := (num_pos_iff hd).1 h0
  obtain ⟨z, hz⟩ := dropWhile_zeros f
  rw [h1, List.append_nil] at hz
  rw [hz] at hc
  exact h (List.eq_of_mem_replicate hc)
 ·exact h0
theorem num_lo {g : List Nat} (hd : ∀ x ∈ g, dg10 x = true) (h0 : g ≠ []) (hh : g.head? ≠ some 48) : 10 ^ (g.length - 1) ≤ num 10 g := by
 cases g with
 | nil => exact absurd rfl h0
 | cons c r =>
  have := num_ge (f := r) (c := c) hd (fun e => hh (by rw [e]; rfl))
  simpa using this
theorem num_hi {g : List Nat} (hd : ∀ x ∈ g, dg10 x = true) : num 10 g < 10 ^ g.length := num_lt (fun c hc => (dgt_ten (hd c hc)).2)
theorem head_take {g : List Nat} {k : Nat} (hk : 0 < k) : (g.take k).head? = g.head? := by
 cases g with
 | nil => simp
 | cons c r =>
  obtain ⟨j, rfl⟩ : ∃ j, k = j + 1 := ⟨k - 1, by omega⟩
  rw [List.take_succ_cons]
  rfl
theorem dgt_49 : dgt 49 = 1 := by decide
theorem cut_tail {g : List Nat} {k : Nat} {e : Int} (hd : ∀ x ∈ g, dg10 x = true) (hh : g.head? ≠ some 48) (hk : 769 ≤ k) (hl : k < g.length) (hpt : (g.length : Int) + e ≤ 768) (hc : ∃ c ∈ g.drop k, c ≠ 48) :
  decR (num 10 g) e = decR (num 10 (g.take k ++ [49])) (e + (g.length - k : Nat) - 1) := by
 obtain ⟨p, hp⟩ : ∃ p, g.take k = p := ⟨_, rfl⟩
 obtain ⟨q, hq⟩ : ∃ q, g.drop k = q := ⟨_, rfl⟩
 have hg : g = p ++ q := by rw [← hp, ← hq, List.take_append_drop]
 have lp : p.length = k := by rw [← hp, List.length_take]; omega
 have lq : q.length = g.length - k := by rw [← hq, List.length_drop]
 have dp : ∀ x ∈ p, dg10 x = true := fun x hx => hd x (by rw [hg]; exact List.mem_append_left _ hx)
 have dq : ∀ x ∈ q, dg10 x = true := fun x hx => hd x (by rw [hg]; exact List.mem_append_right _ hx)
 have hhp : p.head? ≠ some 48 := by rw [← hp, head_take (by omega)]; exact hh
 have p0 : p ≠ [] := fun e => by rw [e] at lp; simp at lp; omega
 rw [hq] at hc
 obtain ⟨c, hc1, hc2⟩ := hc
 have q0 := num_any_pos dq hc1 hc2
 have h1 := num_lo dp p0 hhp
 rw [lp] at h1
 have h2 := num_hi dp
 rw [lp] at h2
 have h3 := num_hi dq
 rw [hp, num_append, num_one, dgt_49, ← lq]
 have h4 := decR_cut (p := num 10 p) (r := q.length) (q := num 10 q) (k := k) (e := e) hk h1 h2 h3 q0 (by rw [hg, List.length_append, lp] at hpt; omega)
 rw [← num_append, ← hg] at h4
 rw [h4]
 rfl
/-! ### The program's way -/
theorem pway_none {f : List Nat} {e : Int} (h : trz (ldz f) = []) : decR (num 10 f) e = 0 := by
 have h1 := num_trz (ldz f)
 rw [h, num_nil, Nat.zero_mul] at h1
 have h2 : num 10 (ldz f) = num 10 f := num_lead 10 f
 rw [← h2, h1]
 exact decR_zero e
theorem pway_low {f : List Nat} {e : Int} (hd : ∀ x ∈ f, dg10 x = true) (h : ((ldz f).length : Int) + e < -323) : decR (num 10 f) e = 0 := by
 have h2 : num 10 (ldz f) = num 10 f := num_lead 10 f
 rw [← h2]
 exact decR_tiny (num_hi (fun x hx => hd x (ldz_mem hx))) (by omega)
theorem pway_high {f : List Nat} {e : Int} (hd : ∀ x ∈ f, dg10 x = true) (h0 : trz (ldz f) ≠ []) (h : 309 < ((ldz f).length : Int) + e) : decR (num 10 f) e = 9218868437227405312 := by
 have h2 : num 10 (ldz f) = num 10 f := num_lead 10 f
 have h3 : ldz f ≠ [] := fun e => h0 (by rw [e]; rfl)
 have h4 : 0 < (ldz f).length := List.length_pos_iff.2 h3
 rw [← h2]
 exact decR_huge (num_lo (fun x hx => hd x (ldz_mem hx)) h3 (lead_head f)) (by omega)
theorem pway_short {f : List Nat} (e : Int) : decR (num 10 f) e = decR (num 10 (trz (ldz f))) ((ldz f).length + e - (trz (ldz f)).length) := by
 have h2 : num 10 (ldz f) = num 10 f := num_lead 10 f
 have h3 := trz_len (ldz f)
 rw [← h2, num_trz (ldz f), decR_shift]
 exact congrArg (decR _) (by omega)
theorem trz_head {f : List Nat} (h : f.head? ≠ some 48) : (trz f).head? ≠ some 48 := by
 obtain ⟨z, hz⟩ := trz_zeros f
 cases ht : trz f with
 | nil => simp
 | cons c r =>
  rw [ht] at hz
  rw [hz] at h
  exact h
theorem pway_long {f : List Nat} {e : Int} (hd : ∀ x ∈ f, dg10 x = true) (hl : 800 < (trz (ldz f)).length) (h : ((ldz f).length : Int) + e ≤ 309) : decR (num 10 f) e = decR (num 10 ((trz (ldz f)).take 800 ++ [49])) ((ldz f).length + e - 801) := by
 rw [pway_short]
 have h3 := trz_len (ldz f)
 have hdh : ∀ x ∈ trz (ldz f), dg10 x = true := fun x hx => hd x (ldz_mem (trz_mem hx))
 have key := cut_tail (g := trz (ldz f)) (k := 800) (e := (ldz f).length + e - (trz (ldz f)).length) hdh (trz_head (lead_head f)) (by omega) hl (by omega) ?_
 ·rw [key]
  exact congrArg (decR _) (by omega)
 ·have hne : trz (ldz f) ≠ [] := fun e => by rw [e] at hl; simp at hl
  obtain ⟨c, hc⟩ : ∃ c, (trz (ldz f)).getLast? = some c := ⟨_, List.getLast?_eq_some_getLast hne⟩
  refine ⟨c, ?_, fun e => trz_last (ldz f) (by rw [← e]; exact hc)⟩
  have h5 : ((trz (ldz f)).drop 800).getLast? = some c := by
   rw [List.getLast?_drop, if_neg (by omega)]
   exact hc
  exact List.mem_of_getLast? h5
/-! ### The reference's way -/
end
section
theorem hexA_len : ∀ {a n : Nat} {l : List Nat} {v : Nat}, hexA a n l = some v → n ≤ l.length
 | _, 0, _, _, h => by rw [hexA] at h; cases h
 | a, 1, l, v, h => by
  cases l with
  | nil => simp [hexA] at h
  | cons c r => simp
 | a, n + 2, l, v, h => by
  cases l with
  | nil => simp [hexA] at h
  | cons c r =>
   rw [hexA] at h
   cases hq : hxV c with
   | none => rw [hq] at h; cases h
   | some d =>
    rw [hq] at h
    have := hexA_len (a := a * 16 + d) (n := n + 1) (l := r) h
    rw [List.length_cons]
    omega
theorem esc_len {l : List Nat} {v : List Nat} {n : Nat} (h : escL l = some (v, n)) : 1 ≤ n ∧ n ≤ l.length := by
 cases l with
 | nil => cases h
 | cons c r =>
  rw [escL] at h
  rw [List.length_cons]
  split at h
  ·cases hq : hexA 0 2 r with
   | none => rw [hq] at h; cases h
   | some d =>
    rw [hq] at h
    have h2 : 3 = n := congrArg Prod.snd (Option.some.inj h)
    have := hexA_len hq
    omega
  ·split at h
   ·cases hq : hexA 0 4 r with
    | none => rw [hq] at h; cases h
    | some d =>
     rw [hq] at h
     have h2 : 5 = n := congrArg Prod.snd (Option.some.inj h)
     have := hexA_len hq
     omega
   ·split at h
    ·have h2 := congrArg Prod.snd (Option.some.inj h)
     simp only at h2
     split at h2
     ·rename_i hc
      obtain ⟨q, hq⟩ := hd0_get (by omega) hc.2
      rw [hq, List.length_cons]
      omega
     ·omega
    ·split at h
     ·split at h
      ·cases h
      ·have h2 : 1 = n := congrArg Prod.snd (Option.some.inj h)
       omega
     ·split at h
      ·cases h
      ·have h2 : 1 = n := congrArg Prod.snd (Option.some.inj h)
       omega
theorem str_len : ∀ {f q : Nat} {l : List Nat} {t : List Nat} {n : Nat}, strF f q l = some (t, n) → n ≤ l.length
 | 0, _, _, _, _, h => by cases h
 | _ + 1, _, [], _, _, h => by cases h
 | f + 1, q, c :: r, t, n, h => by
  rw [strF] at h
  rw [List.length_cons]
  split at h
  ·cases h
  ·split at h
   ·have h2 : 1 = n := congrArg Prod.snd (Option.some.inj h)
    omega
   ·split at h
    ·cases he : escL r with
     | none => rw [he] at h; cases h
     | some p =>
      obtain ⟨v, k⟩ := p
      rw [he] at h
      simp only at h
      have h3 := (esc_len he).2
      cases hs : strF f q (r.drop k) with
      | none => rw [hs] at h; cases h
      | some p =>
       rw [hs] at h
       have h2 : 1 + k + p.2 = n := congrArg Prod.snd (Option.some.inj h)
       have := str_len (t := p.1) (n := p.2) hs
       rw [List.length_drop] at this
       omega
    ·cases hs : strF f q r with
     | none => rw [hs] at h; cases h
     | some p =>
      rw [hs] at h
      have h2 : 1 + p.2 = n := congrArg Prod.snd (Option.some.inj h)
      have := str_len (t := p.1) (n := p.2) hs
      omega
theorem nam_len : ∀ {f : Nat} {b : Bool} {l : List Nat} {t : List Nat} {e : Bool} {n : Nat}, namF f b l = some (t, e, n) → n ≤ l.length
 | 0, _, l, _, _, n, h => by
  have h2 : 0 = n := congrArg (fun p => p.2.2) (Option.some.inj h)
  omega
 | _ + 1, _, [], _, _, n, h => by
  have h2 : 0 = n := congrArg (fun p => p.2.2) (Option.some.inj h)
  omega
 | f + 1, b, c :: r, t, e, n, h => by
  rw [namF] at h
  rw [List.length_cons]
  split at h
  ·split at h
   ·rename_i hu
    obtain ⟨q, hq⟩ := hd0_get (by omega) hu
    cases hx : hexA 0 4 r.tail with
    | none => rw [hx] at h; cases h
    | some v =>
     rw [hx] at h
     simp only at h
     split at h
     ·cases hs : namF f false (r.drop 5) with
      | none => rw [hs] at h; cases h
      | some p =>
       obtain ⟨t1, e1, n1⟩ := p
       rw [hs] at h
       have h2 : 6 + n1 = n := congrArg (fun p => p.2.2) (Option.some.inj h)
       have h3 := nam_len hs
       have h4 := hexA_len hx
       rw [hq, List.tail_cons] at h4
       rw [hq] at h3 ⊢
       rw [List.length_drop, List.length_cons] at h3
       rw [List.length_cons]
       omega
     ·cases h
   ·cases h
  ·split at h
   ·cases hs : namF f false r with
    | none => rw [hs] at h; cases h
    | some p =>
     obtain ⟨t1, e1, n1⟩ := p
     rw [hs] at h
     have h2 : 1 + n1 = n := congrArg (fun p => p.2.2) (Option.some.inj h)
     have := nam_len hs
     omega
   ·have h2 : 0 = n := congrArg (fun p => p.2.2) (Option.some.inj h)
    omega
theorem nam_pos {f : Nat} {c : Nat} {r t : List Nat} {e : Bool} {n : Nat} (hc : (stN c || c == 92) = true) (h : namF (f + 1) true (c :: r) = some (t, e, n)) : 1 ≤ n := by
 rw [namF] at h
 split at h
 ·split at h
  ·cases hx : hexA 0 4 r.tail with
   | none => rw [hx] at h; cases h
   | some v =>
    rw [hx] at h
    simp only at h
    split at h
    ·cases hs : namF f false (r.drop 5) with
     | none => rw [hs] at h; cases h
     | some p =>
      rw [hs] at h
      have h2 : 6 + p.2.2 = n := congrArg (fun p => p.2.2) (Option.some.inj h)
      omega
    ·cases h
  ·cases h
 ·rename_i h92
  have hst : stN c = true := by
   rw [Bool.or_eq_true, beq_iff_eq] at hc
   exact hc.resolve_right h92
  rw [if_pos (show fitN true c = true from hst)] at h
  cases hs : namF f false r with
  | none => rw [hs] at h; cases h
  | some p =>
   rw [hs] at h
   have h2 : 1 + p.2.2 = n := congrArg (fun p => p.2.2) (Option.some.inj h)
   omega
theorem numR_le (l : List Nat) : numR l ≤ l.length := by
 unfold numR
 split
 ·rename_i hx
  unfold hxA at hx
  cases l with
  | nil => simp at hx
  | cons a t =>
   cases t with
   | nil => simp at hx
   | cons b u =>
    have : ((b :: u).drop 1).length = u.length := rfl
    have h2 := (List.takeWhile_sublist (p := hx16) (l := u)).length_le
    show 2 + (u.takeWhile hx16).length ≤ u.length + 1 + 1
    omega
 ·omega
theorem num_len {l : List Nat} {x n : Nat} (h : numL l = some (x, n)) : 1 ≤ n ∧ n ≤ l.length := by
 unfold numL at h
 split at h
 ·rename_i ho
  have h2 : numR l = n := congrArg Prod.snd (Option.some.inj h)
  have := numR_le l
  refine ⟨?_, by omega⟩
  rcases Nat.eq_zero_or_pos n with h0 | h0
  ·unfold numO at ho
   rw [h2, h0, List.take_zero, show litB [] = false by decide, Bool.false_and] at ho
   cases ho
  ·exact h0
 ·cases h
theorem read_len {l : List Nat} {k : Nat} {t : List Nat} {x : Nat} {e : Bool} {n : Nat} (h : readL l = some (k, t, x, e, n)) : n ≤ l.length ∧ (k = 1 ↔ l = []) ∧ (l ≠ [] → 1 ≤ n) ∧ 1 ≤ k ∧ k ≤ 6 := by
 cases l with
 | nil =>
  have h1 : 1 = k := congrArg (fun p => p.1) (Option.some.inj h)
  have h2 : 0 = n := congrArg (fun p => p.2.2.2.2) (Option.some.inj h)
  exact ⟨by omega, by simp [← h1], by simp, by omega, by omega⟩
 | cons c r =>
  rw [readL] at h
  have fin : n ≤ (c :: r).length ∧ 1 ≤ n ∧ k ≠ 1 ∧ 1 ≤ k ∧ k ≤ 6 → n ≤ (c :: r).length ∧ (k = 1 ↔ c :: r = []) ∧ (c :: r ≠ [] → 1 ≤ n) ∧ 1 ≤ k ∧ k ≤ 6 := by
   rintro ⟨h1, h2, h3, h4, h5⟩
   exact ⟨h1, by simp [h3], fun _ => h2, h4, h5⟩
  apply fin
  split at h
  ·rename_i hc
   cases hs : namL (c :: r) with
   | none => rw [hs] at h; cases h
   | some p =>
    obtain ⟨t1, e1, n1⟩ := p
    rw [hs] at h
    have h1 : (if resB t1 = true then 3 else 2) = k := congrArg (fun p => p.1) (Option.some.inj h)
    have h2 : n1 = n := congrArg (fun p => p.2.2.2.2) (Option.some.inj h)
    have h3 := nam_len hs
    have h4 := nam_pos hc hs
    split at h1 <;> exact ⟨by omega, by omega, by omega, by omega, by omega⟩
  ·split at h
   ·cases hs : strL c r with
    | none => rw [hs] at h; cases h
    | some p =>
     rw [hs] at h
     have h1 : 6 = k := congrArg (fun p => p.1) (Option.some.inj h)
     have h2 : 1 + p.2 = n := congrArg (fun p => p.2.2.2.2) (Option.some.inj h)
     have h3 := str_len (t := p.1) (n := p.2) hs
     rw [List.length_cons]
     exact ⟨by omega, by omega, by omega, by omega, by omega⟩
   ·split at h
    ·cases hs : numL (c :: r) with
     | none => rw [hs] at h; cases h
     | some p =>
      rw [hs] at h
      have h1 : 5 = k := congrArg (fun p => p.1) (Option.some.inj h)
      have h2 : p.2 = n := congrArg (fun p => p.2.2.2.2) (Option.some.inj h)
      have h3 := num_len (x := p.1) (n := p.2) hs
      exact ⟨by omega, by omega, by omega, by omega, by omega⟩
    ·cases hs : markL (c :: r) with
     | none => rw [hs] at h; cases h
     | some t1 =>
      rw [hs] at h
      have h1 : 4 = k := congrArg (fun p => p.1) (Option.some.inj h)
      have h2 : t1.length = n := congrArg (fun p => p.2.2.2.2) (Option.some.inj h)
      obtain ⟨h3, h4, h5, _⟩ := mark_some hs
      have h6 := congrArg List.length h5
      rw [List.length_take] at h6
      exact ⟨by omega, by omega, by omega, by omega, by omega⟩
end
section
theorem all_fuel : ∀ (f g p : Nat) (l : List Nat), l.length < f → l.length < g → allF f p l = allF g p l
 | 0, _, _, _, h, _ => by omega
 | _ + 1, 0, _, _, _, h => by omega
 | f + 1, g + 1, p, l, hf, hg => by
  rw [allF, allF]
  obtain ⟨s, hs⟩ : ∃ s, skipL l = s := ⟨_, rfl⟩
  have hle := skipL_le l
  rw [hs] at hle ⊢
  by_cases hok : s.2.2 = false
  ·rw [if_pos hok, if_pos hok]
  ·rw [if_neg hok, if_neg hok]
   cases hr : readL (l.drop s.1) with
   | none => rfl
   | some v =>
    obtain ⟨k, t, x, e, n⟩ := v
    obtain ⟨r1, r2, r3, _, _⟩ := read_len hr
    simp only
    by_cases hk : k = 1
    ·rw [if_pos hk, if_pos hk]
    ·have hne : l.drop s.1 ≠ [] := fun hx => hk (r2.2 hx)
     have hn := r3 hne
     rw [List.length_drop] at r1
     have hlt : (l.drop (s.1 + n)).length < l.length := by rw [List.length_drop]; omega
     rw [if_neg hk, if_neg hk, all_fuel f g (p + s.1 + n) (l.drop (s.1 + n)) (by omega) (by omega)]
def allG (p : Nat) (l : List Nat) : Nat × Option (List Tok) := allF (l.length + 1) p l
def nxtL (p : Nat) (l : List Nat) : Nat × Option Tok :=
 if (skipL l).2.2 = false then (p + (skipL l).1, none)
 else match readL (l.drop (skipL l).1) with
  | none => (p + (skipL l).1, none)
  | some (k, t, x, e, n) => (0, some ⟨k, t, x, e, (skipL l).2.1, p + (skipL l).1, p + (skipL l).1 + n⟩)
theorem all_next (p : Nat) (l : List Nat) : allG p l = match nxtL p l with
  | (q, none) => (q, none)
  | (_, some k) => if k.kind = 1 then (0, some [k]) else match allG k.fin (l.drop (k.fin - p)) with
   | (q, none) => (q, none)
   | (_, some ts) => (0, some (k :: ts)) := by
 unfold allG nxtL
 rw [allF]
 obtain ⟨s, hs⟩ : ∃ s, skipL l = s := ⟨_, rfl⟩
 have hle := skipL_le l
 rw [hs] at hle ⊢
 by_cases hok : s.2.2 = false
 ·rw [if_pos hok, if_pos hok]
 ·rw [if_neg hok, if_neg hok]
  cases hr : readL (l.drop s.1) with
  | none => rfl
  | some v =>
   obtain ⟨k, t, x, e, n⟩ := v
   obtain ⟨r1, r2, r3, _, _⟩ := read_len hr
   simp only
   by_cases hk : k = 1
   ·rw [if_pos hk, if_pos hk]
   ·have hne : l.drop s.1 ≠ [] := fun hx => hk (r2.2 hx)
    have hn := r3 hne
    rw [List.length_drop] at r1
    have hlt : (l.drop (s.1 + n)).length < l.length := by rw [List.length_drop]; omega
    rw [if_neg hk, if_neg hk, show p + s.1 + n - p = s.1 + n by omega, all_fuel l.length ((l.drop (s.1 + n)).length + 1) (p + s.1 + n) (l.drop (s.1 + n)) (by omega) (by omega)]
    rfl
theorem nxt_in {p q : Nat} {l : List Nat} {k : Tok} (h : nxtL p l = (q, some k)) : p ≤ k.pos ∧ k.pos ≤ k.fin ∧ k.fin ≤ p + l.length ∧ (k.kind = 1 ↔ k.fin = p + l.length ∧ k.pos = k.fin) ∧ 1 ≤ k.kind ∧ k.kind ≤ 6 ∧ q = 0 := by
 unfold nxtL at h
 obtain ⟨s, hs⟩ : ∃ s, skipL l = s := ⟨_, rfl⟩
 have hle := skipL_le l
 rw [hs] at hle h
 by_cases hok : s.2.2 = false
 ·rw [if_pos hok] at h
  cases congrArg Prod.snd h
 ·rw [if_neg hok] at h
  cases hr : readL (l.drop s.1) with
  | none => rw [hr] at h; cases congrArg Prod.snd h
  | some v =>
   obtain ⟨j, t, x, e, n⟩ := v
   obtain ⟨r1, r2, r3, r4, r5⟩ := read_len hr
   rw [hr] at h
   have hk : ⟨j, t, x, e, s.2.1, p + s.1, p + s.1 + n⟩ = k := Option.some.inj (congrArg Prod.snd h)
   have hq : 0 = q := congrArg Prod.fst h
   rw [List.length_drop] at r1
   have hnil : l.drop s.1 = [] ↔ l.length ≤ s.1 := List.drop_eq_nil_iff
   subst hk
   refine ⟨by show p ≤ p + s.1; omega, by show p + s.1 ≤ p + s.1 + n; omega, by show p + s.1 + n ≤ p + l.length; omega, ?_, r4, r5, hq.symm⟩
   show j = 1 ↔ p + s.1 + n = p + l.length ∧ p + s.1 = p + s.1 + n
   rw [r2, hnil]
   constructor
   ·intro h1
    omega
   ·rintro ⟨h1, h2⟩
    omega
theorem skip_next (l : List Nat) : skipL l = match gapL l with
  | none => (0, false, false)
  | some (0, _) => (0, false, true)
  | some (n + 1, b) => (n + 1 + (skipL (l.drop (n + 1))).1, b || (skipL (l.drop (n + 1))).2.1, (skipL (l.drop (n + 1))).2.2) := by
 show skipF (l.length + 1) l = _
 rw [skipF]
 cases hq : gapL l with
 | none => rfl
 | some p =>
  obtain ⟨n, b⟩ := p
  cases n with
  | zero => rfl
  | succ n =>
   have hle := gap_le hq
   have e := skip_fuel l.length ((l.drop (n + 1)).length + 1) (l.drop (n + 1)) (by rw [List.length_drop]; omega) (by omega)
   show (n + 1 + (skipF l.length (l.drop (n + 1))).1, _, _) = (n + 1 + (skipF ((l.drop (n + 1)).length + 1) (l.drop (n + 1))).1, _, _)
   rw [e]
   rfl
theorem nam_fuel : ∀ (f g : Nat) (b : Bool) (l : List Nat), l.length < f → l.length < g → namF f b l = namF g b l
 | 0, _, _, _, h, _ => by omega
 | _ + 1, 0, _, _, _, h => by omega
 | f + 1, g + 1, b, [], _, _ => rfl
 | f + 1, g + 1, b, c :: r, hf, hg => by
  rw [List.length_cons] at hf hg
  rw [namF, namF, nam_fuel f g false (r.drop 5) (by rw [List.length_drop]; omega) (by rw [List.length_drop]; omega), nam_fuel f g false r (by omega) (by omega)]
theorem str_fuel : ∀ (f g q : Nat) (l : List Nat), l.length < f → l.length < g → strF f q l = strF g q l
 | 0, _, _, _, h, _ => by omega
 | _ + 1, 0, _, _, _, h => by omega
 | f + 1, g + 1, q, [], _, _ => rfl
 | f + 1, g + 1, q, c :: r, hf, hg => by
  rw [List.length_cons] at hf hg
  have e1 := str_fuel f g q r (by omega) (by omega)
  have e2 : ∀ n, strF f q (r.drop n) = strF g q (r.drop n) := fun n => str_fuel f g q (r.drop n) (by rw [List.length_drop]; omega) (by rw [List.length_drop]; omega)
  rw [strF, strF, e1]
  cases escL r with
  | none => rfl
  | some p =>
   obtain ⟨v, n⟩ := p
   simp only [e2 n]


end
section
open Go.RowKit
def tkV (kind : Nat) (text : ByteArray) (num : Nat) (esc nl : Bool) (pos fin : Nat) : Value := .agg #[.int .i64 (kind : Int), .string text, .float .f64 num, .bool esc, .bool nl, .int .i64 (pos : Int), .int .i64 (fin : Int)]
theorem make_own {B : Nat} {l : List Nat} {v : Value} {w : World} (h : Own16 B l v w) (hu : ∀ u ∈ l, u < 65536) (hs : 2 * l.length ≤ 140737488355328) :
  Ct 44 #[v] (.string ⟨(bL l).toArray⟩) w := by
 obtain ⟨hn, h⟩ := h
 rcases h with ⟨rfl, h0⟩ | ⟨g, cap, cur, rfl, hb, hg, hc, hm, hsz, ht⟩
 ·obtain rfl : l = [] := List.eq_nil_of_length_eq_zero h0
  exact make_none none 0 w
 ·refine make_any l hu g 0 cap w (Array.getElem?_eq_some_iff.1 hg).1 ?_ hs
  intro k u hk
  have hk1 : k < l.length := (List.getElem?_eq_some_iff.1 hk).1
  have e1 : (cur.toList.take (l.length * 1))[k]? = some (.int .u16 (u : Nat)) := by rw [ht, List.getElem?_map, hk]; rfl
  rw [List.getElem?_take_of_lt (by omega)] at e1
  simp only [World.cell?, hg, Nat.zero_add]
  simpa using e1
theorem str_cons (q c : Nat) (r : List Nat) : strL q (c :: r) =
  if enN c = true then none else if c = q then some ([], 1) else if c = 92 then
   match escL r with
   | none => none
   | some (v, n) => (strL q (r.drop n)).map fun p => (v ++ p.1, 1 + n + p.2)
  else (strL q r).map fun p => (c :: p.1, 1 + p.2) := by
 show strF ((c :: r).length + 1) q (c :: r) = _
 rw [strF]
 split
 ·rfl
 ·split
  ·rfl
  ·split
   ·cases he : escL r with
    | none => rfl
    | some p =>
     obtain ⟨v, n⟩ := p
     simp only []
     rw [str_fuel _ ((r.drop n).length + 1) q (r.drop n) (by simp; omega) (by omega)]
     rfl
   ·rw [str_fuel _ (r.length + 1) q r (by simp) (by omega)]
    rfl
theorem hexB_lt : ∀ (n a m : Nat) (l : List Nat) {v : Nat}, a < 16 ^ m → hexB a n l = some v → v < 16 ^ (m + n)
 | 0, a, m, l, v, ha, h => by
  rw [hexB] at h
  cases h
  exact ha
 | n + 1, a, m, l, v, ha, h => by
  rw [hexB] at h
  split at h
  ·rename_i h16
   have hd : dgt (hd0 l) < 16 := by unfold hx16 at h16; simpa using h16
   have := hexB_lt n _ (m + 1) _ (by rw [Nat.pow_succ]; omega) h
   rw [show m + 1 + n = m + (n + 1) by omega] at this
   exact this
  ·cases h
theorem hexA_lt {n : Nat} {l : List Nat} {v : Nat} (h : hexA 0 n l = some v) (hn : n ≤ 4) : v < 65536 := by
 cases n with
 | zero => cases l <;> cases h
 | succ n =>
  rw [hexA_B] at h
  have := hexB_lt (n + 1) 0 0 l (by decide) h
  have h2 : 16 ^ (0 + (n + 1)) ≤ 16 ^ 4 := Nat.pow_le_pow_right (by omega) (by omega)
  omega
theorem sgl_lt {c : Nat} (h : c < 65536) : sglN c < 65536 := by
 unfold sglN
 repeat (first | (split; omega) | exact h)
theorem esc_lt {l v : List Nat} {n : Nat} (hl : ∀ u ∈ l, u < 65536) (h : escL l = some (v, n)) : ∀ u ∈ v, u < 65536 := by
 cases l with
 | nil => cases h
 | cons c r =>
  have hc := hl c (by simp)
  rw [escL] at h
  split at h
  ·cases hx : hexA 0 2 r with
   | none => rw [hx] at h; cases h
   | some x =>
    rw [hx] at h
    cases h
    intro u hu
    simp at hu
    have := hexA_lt hx (by omega)
    omega
  ·split at h
   ·cases hx : hexA 0 4 r with
    | none => rw [hx] at h; cases h
    | some x =>
     rw [hx] at h
     cases h
     intro u hu
     simp at hu
     have := hexA_lt hx (by omega)
     omega
   ·split at h
    ·cases h
     intro u hu
     simp at hu
    ·split at h
     ·split at h
      ·cases h
      ·cases h
       intro u hu
       simp at hu
       omega
     ·split at h
      ·cases h
      ·cases h
       intro u hu
       simp at hu
       have := sgl_lt hc
       omega

end
section
open Go.RowKit
abbrev wdsS : ByteArray := { data := #[32, 98, 114, 101, 97, 107, 32, 99, 97, 115, 101, 32, 99, 97, 116, 99, 104, 32, 99, 108, 97, 115, 115, 32, 99, 111, 110, 115, 116, 32, 99, 111, 110, 116, 105, 110, 117, 101, 32, 100, 101, 98, 117, 103, 103, 101, 114, 32, 100, 101, 102, 97, 117, 108, 116, 32, 100, 101, 108, 101, 116, 101, 32, 100, 111, 32, 101, 108, 115, 101, 32, 101, 110, 117, 109, 32, 101, 120, 112, 111, 114, 116, 32, 101, 120, 116, 101, 110, 100, 115, 32, 102, 97, 108, 115, 101, 32, 102, 105, 110, 97, 108, 108, 121, 32, 102, 111, 114, 32, 102, 117, 110, 99, 116, 105, 111, 110, 32, 105, 102, 32, 105, 109, 112, 108, 101, 109, 101, 110, 116, 115, 32, 105, 109, 112, 111, 114, 116, 32, 105, 110, 32, 105, 110, 115, 116, 97, 110, 99, 101, 111, 102, 32, 105, 110, 116, 101, 114, 102, 97, 99, 101, 32, 108, 101, 116, 32, 110, 101, 119, 32, 110, 117, 108, 108, 32, 112, 97, 99, 107, 97, 103, 101, 32, 112, 114, 105, 118, 97, 116, 101, 32, 112, 114, 111, 116, 101, 99, 116, 101, 100, 32, 112, 117, 98, 108, 105, 99, 32, 114, 101, 116, 117, 114, 110, 32, 115, 116, 97, 116, 105, 99, 32, 115, 117, 112, 101, 114, 32, 115, 119, 105, 116, 99, 104, 32, 116, 104, 105, 115, 32, 116, 104, 114, 111, 119, 32, 116, 114, 117, 101, 32, 116, 114, 121, 32, 116, 121, 112, 101, 111, 102, 32, 118, 97, 114, 32, 118, 111, 105, 100, 32, 119, 104, 105, 108, 101, 32, 119, 105, 116, 104, 32, 121, 105, 101, 108, 100, 32] }
theorem wdsS_size : wdsS.size = 289 := by decide +kernel
theorem wdsT_len : wdsT.length = 289 := by decide +kernel
theorem wdsS_all : ∀ i : Fin 289, (wdsS[i.val]'(by have := wdsS_size; omega)).toNat = wdsT.getD i.val 0 := by decide +kernel
theorem wdsS_at (i : Nat) (h : i < wdsS.size) : (wdsS[i]'h).toNat = wdsT.getD i 0 := wdsS_all ⟨i, by have := wdsS_size; omega⟩
theorem wdsT_get {i : Nat} (h : i < 289) : wdsT[i]? = some (wdsT.getD i 0) := by
 rw [List.getD_eq_getElem?_getD, List.getElem?_eq_getElem (by rw [wdsT_len]; exact h)]
 rfl
def wdQ (U : List Nat) (i j : Nat) : Bool := U.getD j 0 == wdsT.getD (i + 1 + j) 0 && U.getD j 0 != 32
theorem wdAt_all {U : List Nat} {i : Nat} (h1 : i + U.length + 1 < 289) (h2 : wdsT.getD i 0 = 32) (h3 : wdsT.getD (i + U.length + 1) 0 = 32) :
  wdAt U i = (List.range U.length).all (wdQ U i) := by
 unfold wdAt
 rw [wdsT_get (by omega), wdsT_get h1, h2, h3]
 rw [Bool.eq_iff_iff]
 simp only [BEq.rfl, Bool.true_and, Bool.and_eq_true, beq_iff_eq, List.all_eq_true, List.mem_range, bne_iff_ne]
 constructor
 ·rintro ⟨h4, h5⟩ j hj
  have h6 : U[j]? = some (U.getD j 0) := by
   rw [List.getD_eq_getElem?_getD, List.getElem?_eq_getElem hj]; rfl
  unfold wdQ
  rw [Bool.and_eq_true, beq_iff_eq, bne_iff_ne]
  refine ⟨?_, h5 _ (List.mem_of_getElem? h6)⟩
  have h7 : ((wdsT.drop (i + 1)).take U.length)[j]? = some (wdsT.getD (i + 1 + j) 0) := by
   rw [List.getElem?_take_of_lt hj, List.getElem?_drop, wdsT_get (by omega)]
  rw [h4, h6] at h7
  exact Option.some.inj h7
 ·intro h
  have hq : ∀ j, j < U.length → U.getD j 0 = wdsT.getD (i + 1 + j) 0 ∧ U.getD j 0 ≠ 32 := fun j hj => by
   have := h j hj
   unfold wdQ at this
   rwa [Bool.and_eq_true, beq_iff_eq, bne_iff_ne] at this
  constructor
  ·apply List.ext_getElem?
   intro j
   rcases Nat.lt_or_ge j U.length with hj | hj
   ·rw [List.getElem?_take_of_lt hj, List.getElem?_drop, wdsT_get (by omega), ← (hq j hj).1, List.getD_eq_getElem?_getD, List.getElem?_eq_getElem hj]
    rfl
   ·rw [List.getElem?_eq_none (by rw [List.length_take]; omega), List.getElem?_eq_none hj]
  ·intro c hc
   obtain ⟨j, hj, rfl⟩ := List.mem_iff_getElem.1 hc
   have := (hq j hj).2
   rw [List.getD_eq_getElem?_getD, List.getElem?_eq_getElem hj] at this
   exact this
theorem wdAt_not {U : List Nat} {i : Nat} (h : wdsT.getD i 0 ≠ 32 ∨ 289 ≤ i + U.length + 1 ∨ wdsT.getD (i + U.length + 1) 0 ≠ 32) (hi : i < 289) : wdAt U i = false := by
 rw [Bool.eq_false_iff]
 intro hw
 unfold wdAt at hw
 rw [Bool.and_eq_true, Bool.and_eq_true, Bool.and_eq_true, beq_iff_eq, beq_iff_eq] at hw
 obtain ⟨⟨⟨h1, h2⟩, _⟩, _⟩ := hw
 rw [wdsT_get hi] at h1
 rcases h with h | h | h
 ·exact h (Option.some.inj h1)
 ·rw [List.getElem?_eq_none (by rw [wdsT_len]; exact h)] at h2
  cases h2
 ·rcases Nat.lt_or_ge (i + U.length + 1) 289 with h3 | h3
  ·rw [wdsT_get h3] at h2
   exact h (Option.some.inj h2)
  ·rw [List.getElem?_eq_none (by rw [wdsT_len]; exact h3)] at h2
   cases h2
theorem wdAt_far {U : List Nat} {i : Nat} (h : 289 ≤ i) : wdAt U i = false := by
 unfold wdAt
 rw [List.getElem?_eq_none (by rw [wdsT_len]; exact h)]
 rfl
theorem all_range_succ (f : Nat → Bool) (k : Nat) : (List.range (k + 1)).all f = ((List.range k).all f && f k) := by
 rw [List.range_succ, List.all_append]
 simp
theorem zReserved_any (s : ByteArray) (w : World) (hs : s.size ≤ 17592186044416) :
  Cp 19 #[.string s] w fun e w' => e = .returned (.bool (resB (us s))) ∧ ∃ n, w' = w.drewN n := by
 have hs63 : s.size ≤ maxLen := by unfold maxLen; omega
 have hln := ln_le s
 have CL := fun W => rlen_any s W hs63
 have C1 := Lib.hid (fun (j : Nat) W => runitT_any s j W hs63)
 obtain ⟨n, hn⟩ : ∃ n, ln s = n := ⟨_, rfl⟩
 have hU : (us s).length = n := by rw [us_length, hn]
 rw [hn] at CL
 have CL := Lib.hid CL
 obtain ⟨R, hR⟩ : ∃ R, resB (us s) = R := ⟨_, rfl⟩
 rw [hR]
 by_cases h0 : n = 0
 ·have hu0 : us s = [] := List.eq_nil_of_length_eq_zero (by rw [hU, h0])
  obtain rfl : R = false := by rw [← hR, hu0]; decide +kernel
  subst h0
  clear hs hs63 hln hn hU hR hu0 C1
  go_enter Tryz.func19, Tryz.ntmps19
  go_wp2_with fail
  refine (CL.out _).mono ?_
  rintro e w' ⟨rfl, rfl⟩
  go_wp2
  go_ret
  exact ⟨rfl, 0, rfl⟩
 have hnl : (n : Int) ≤ 8796093022208 := by omega
 have g0 : ((n : Int) == 0) = false := by rw [beq_eq_false_iff_ne]; omega
 have HU := Lib.hid hU
 have HNE : Hid (us s ≠ []) := Lib.hid (by intro h; rw [h] at hU; simp at hU; omega)
 have HR : Hid (R = true ↔ ∃ i, wdAt (us s) i = true) := Lib.hid (by rw [← hR]; exact res_iff HNE.out)
 have HS := Lib.hid wdsS_size
 clear hs hs63 hln hn hU hR h0
 go_enter Tryz.func19, Tryz.ntmps19
 go_wp2_with fail
 refine (CL.out _).mono ?_
 rintro e w' ⟨rfl, rfl⟩
 go_wp2
 go_loopw [4] (fun iv wr => ∃ i : Nat, iv = .int .i64 i ∧ i ≤ 289 ∧ Hid (∀ j, j < i → wdAt (us s) j = false) ∧ ∃ m, wr = w.drewN m) (fun iv _ => 289 - (intOf iv).toNat)
 case atStart => exact ⟨0, by go_num, by omega, Lib.hid (fun j hj => by omega), 0, rfl⟩
 case round =>
  obtain ⟨i, rfl, hi, HJ, n0, rfl⟩ := hrel
  have hil : (i : Int) ≤ 289 := by omega
  rcases Nat.lt_or_ge i 289 with hlt | hge
  ·have t1 : (i : Int) < 289 := by omega
   have hiS : i < wdsS.size := by rw [HS.out]; exact hlt
   have hb0 := wdsS_at i hiS
   have hnext : wdAt (us s) i = false → Hid (∀ j, j < i + 1 → wdAt (us s) j = false) := fun h => Lib.hid (fun j hj => by
    rcases Nat.lt_or_ge j i with h1 | h1
    ·exact HJ.out j h1
    ·obtain rfl : j = i := by omega
     exact h)
   have HNX := Lib.hid hnext
   clear hnext
   by_cases e1 : wdsT.getD i 0 = 32
   ·have b1 : (((wdsS[i]'hiS).toNat : Nat) : Int) = 32 := by rw [hb0, e1]; rfl
    have b1' : ((((wdsS[i]'hiS).toNat : Nat) : Int) != 32) = false := by rw [b1]; rfl
    rcases Nat.lt_or_ge (i + n + 1) 289 with h2 | h2
    ·have hjS : i + n + 1 < wdsS.size := by rw [HS.out]; exact h2
     have hb1 := wdsS_at (i + n + 1) hjS
     have t2 : (i : Int) + (n : Int) + 1 < 289 := by omega
     by_cases e2 : wdsT.getD (i + n + 1) 0 = 32
     ·have b2 : ((((wdsS[i + n + 1]'hjS).toNat : Nat) : Int) != 32) = false := by rw [hb1, e2]; rfl
      have HW : Hid (wdAt (us s) i = (List.range n).all (wdQ (us s) i)) := Lib.hid (by
       rw [← HU.out]
       exact wdAt_all (by rw [HU.out]; exact h2) e1 (by rw [HU.out]; exact e2))
      have HLT := Lib.hid h2
      have HLT0 := Lib.hid hlt
      clear hb0 hb1 e1 e2 hlt
      go_wp2
      clear b1 b1' b2
      go_loopw [5, 6] (fun sv kv wr => ∃ (b : Bool) (k : Nat), sv = .bool b ∧ kv = .int .i64 k ∧ k ≤ n ∧ Hid (b = (List.range k).all (wdQ (us s) i)) ∧ ∃ m, wr = w.drewN m) (fun _ kv _ => n - (intOf kv).toNat)
      case atStart => exact ⟨true, 0, rfl, by go_num, Nat.zero_le _, Lib.hid rfl, n0, by first | rfl | simp⟩
      case round =>
       obtain ⟨b, k, rfl, rfl, hk, HB, n1, rfl⟩ := hrel
       have hkl : (k : Int) ≤ 8796093022208 := by omega
       rcases Nat.lt_or_ge k n with hkn | hkn
       ·have t3 : (k : Int) < (n : Int) := by omega
        have C2 := C1.out k
        have hc0 : (us s)[k]? = some ((us s).getD k 0) := by
         rw [List.getD_eq_getElem?_getD, List.getElem?_eq_getElem (by rw [HU.out]; exact hkn)]; rfl
        obtain ⟨c, hd1, hd2⟩ := drop_step (L := us s) (k := k) (by rw [HU.out]; exact hkn)
        have hc : (us s).getD k 0 = c := by
         have h3 : ((us s).drop k)[0]? = (us s)[k]? := List.getElem?_drop
         rw [hd1, hc0] at h3
         exact (Option.some.inj h3).symm
        rw [hd1] at C2
        have C2 := Lib.hid (show ∀ W, Cp 48 #[.string s, .int .i64 k] W fun e w' => e = .returned (.tuple #[.int .u16 (c : Nat), .bool true]) ∧ ∃ n, w' = W.drewN n from C2)
        have hkS : i + 1 + k < wdsS.size := by rw [HS.out]; have := HLT.out; omega
        have hbk := wdsS_at (i + 1 + k) hkS
        have hq : wdQ (us s) i k = (c == wdsT.getD (i + 1 + k) 0 && c != 32) := by unfold wdQ; rw [hc]
        obtain ⟨y, hy⟩ : ∃ y, wdsT.getD (i + 1 + k) 0 = y := ⟨_, rfl⟩
        rw [hy] at hbk hq
        have hyl : y < 256 := by rw [← hbk]; exact (wdsS[i + 1 + k]'hkS).toNat_lt
        have hw : IntKind.u16.wrap (((wdsS[i + 1 + k]'hkS).toNat : Nat) : Int) = (y : Int) := by rw [hbk]; exact IntWalk.u16_in _ (by omega)
        have HB2 : ∀ b' : Bool, b' = (b && wdQ (us s) i k) → Hid (b' = (List.range (k + 1)).all (wdQ (us s) i)) := fun b' h => Lib.hid (by rw [all_range_succ, ← HB.out, h])
        rw [hq] at HB2
        clear hc0 hd1 hd2 hc hbk hq hy
        cases b
        ·have HB3 := HB2 false rfl
         clear HB2 hw hyl HB
         go_wp2_with fail
         refine (C2.out _).mono ?_
         rintro e w' ⟨rfl, n2, rfl⟩
         go_wp2
         go_roundw
         case rel => exact ⟨false, k + 1, rfl, by go_num, hkn, HB3, n1 + n2, by first | rfl | simp⟩
         case measure => simp [intOf]; omega
        ·by_cases e3 : c = y
         ·have g3 : ((c : Int) == IntKind.u16.wrap (((wdsS[i + 1 + k]'hkS).toNat : Nat) : Int)) = true := by rw [hw, e3]; simp
          by_cases e4 : c = 32
          ·have g4 : ((c : Int) != 32) = false := by rw [e4]; rfl
           have HB3 := HB2 false (by rw [e4]; simp)
           clear HB2 hw hyl HB e3 e4
           go_wp2_with fail
           refine (C2.out _).mono ?_
           rintro e w' ⟨rfl, n2, rfl⟩
           go_wp2
           go_roundw
           case rel => exact ⟨false, k + 1, rfl, by go_num, hkn, HB3, n1 + n2, by first | rfl | simp⟩
           case measure => simp [intOf]; omega
          ·have g4 : ((c : Int) != 32) = true := by rw [bne_iff_ne]; omega
           have HB3 := HB2 true (by rw [e3]; rw [e3] at e4; simp [e4])
           clear HB2 hw hyl HB e3 e4
           go_wp2_with fail
           refine (C2.out _).mono ?_
           rintro e w' ⟨rfl, n2, rfl⟩
           go_wp2
           go_roundw
           case rel => exact ⟨true, k + 1, rfl, by go_num, hkn, HB3, n1 + n2, by first | rfl | simp⟩
           case measure => simp [intOf]; omega
         ·have g3 : ((c : Int) == IntKind.u16.wrap (((wdsS[i + 1 + k]'hkS).toNat : Nat) : Int)) = false := by rw [hw, beq_eq_false_iff_ne]; omega
          have HB3 := HB2 false (by rw [show (c == y) = false by rw [beq_eq_false_iff_ne]; exact e3]; rfl)
          clear HB2 hw hyl HB e3
          go_wp2_with fail
          refine (C2.out _).mono ?_
          rintro e w' ⟨rfl, n2, rfl⟩
          go_wp2
          go_roundw
          case rel => exact ⟨false, k + 1, rfl, by go_num, hkn, HB3, n1 + n2, by first | rfl | simp⟩
          case measure => simp [intOf]; omega
       ·obtain rfl : k = n := by omega
        have t3 : ¬ (k : Int) < (k : Int) := by omega
        have HB3 : Hid (wdAt (us s) i = b) := Lib.hid (by rw [HW.out, HB.out])
        clear t3
        cases b
        ·have HX := HNX.out HB3.out
         go_wp2
         go_roundw
         case rel => exact ⟨i + 1, by go_num, HLT0.out, HX, n1, by first | rfl | simp⟩
         case measure => have := HLT0.out; simp [intOf]; omega
        ·obtain rfl : R = true := HR.out.2 ⟨i, HB3.out⟩
         go_wp2
         go_ret
         exact ⟨rfl, n1, by first | rfl | simp⟩
     ·have b2 : ((((wdsS[i + n + 1]'hjS).toNat : Nat) : Int) != 32) = true := by rw [hb1, bne_iff_ne]; omega
      have HX := HNX.out (wdAt_not (.inr (.inr (by rw [HU.out]; exact e2))) hlt)
      have HLT0 := Lib.hid hlt
      clear hb0 hb1 e1 e2 hlt
      go_wp2
      go_roundw
      case rel => exact ⟨i + 1, by go_num, HLT0.out, HX, n0, by first | rfl | simp⟩
      case measure => have := HLT0.out; simp [intOf]; omega
    ·have t2 : ¬ (i : Int) + (n : Int) + 1 < 289 := by omega
     have t4 : (289 : Int) ≤ (i : Int) + (n : Int) + 1 := by omega
     have HX := HNX.out (wdAt_not (.inr (.inl (by rw [HU.out]; exact h2))) hlt)
     have HLT0 := Lib.hid hlt
     clear hb0 e1 hlt
     go_wp2
     go_roundw
     case rel => exact ⟨i + 1, by go_num, HLT0.out, HX, n0, by first | rfl | simp⟩
     case measure => have := HLT0.out; simp [intOf]; omega
   ·have b1 : ¬ (((wdsS[i]'hiS).toNat : Nat) : Int) = 32 := by rw [hb0]; omega
    have b1' : ((((wdsS[i]'hiS).toNat : Nat) : Int) != 32) = true := by rw [bne_iff_ne]; exact b1
    have HX := HNX.out (wdAt_not (.inl e1) hlt)
    have HLT0 := Lib.hid hlt
    clear hb0 e1 hlt
    go_wp2
    go_roundw
    case rel => exact ⟨i + 1, by go_num, HLT0.out, HX, n0, by first | rfl | simp⟩
    case measure => have := HLT0.out; simp [intOf]; omega
  ·obtain rfl : i = 289 := by omega
   obtain rfl : R = false := by
    rw [Bool.eq_false_iff]
    intro h
    obtain ⟨i, hi⟩ := HR.out.1 h
    rcases Nat.lt_or_ge i 289 with h1 | h1
    ·rw [HJ.out i h1] at hi; cases hi
    ·rw [wdAt_far h1] at hi; cases hi
   clear HJ hge hil
   go_wp2
   go_ret
   exact ⟨rfl, n0, by first | rfl | simp⟩

end
section
def hx (k : Nat) : UInt8 := if k < 10 then UInt8.ofNat (48 + k) else UInt8.ofNat (55 + k)
def esc (u : Nat) : List UInt8 := [92, 117, hx (u / 4096), hx (u / 256 % 16), hx (u / 16 % 16), hx (u % 16)]
def hiB (u : Nat) : Bool := decide (55296 ≤ u) && decide (u < 56320)
def loB (u : Nat) : Bool := decide (56320 ≤ u) && decide (u < 57344)
def prB (s : ByteArray) (i : Nat) : Bool := decide (i + 1 < ln s) && (hiB (un s i) && loB (un s (i + 1)))
def prP (s : ByteArray) (i : Nat) : Nat := 65536 + (un s i - 55296) * 1024 + (un s (i + 1) - 56320)
def oneU (u : Nat) : List UInt8 := if hiB u || loB u then esc u else Lib.encodeRune u
def encF (s : ByteArray) : Nat → Nat → List UInt8
 | 0, _ => []
 | f + 1, i => if i < ln s then (if prB s i = true then Lib.encodeRune (prP s i) ++ encF s f (i + 2) else oneU (un s i) ++ encF s f (i + 1)) else []
def encS (s : ByteArray) : List UInt8 := encF s (ln s) 0
theorem encF_end (s : ByteArray) (f i : Nat) (h : ¬ i < ln s) : encF s f i = [] := by cases f <;> simp [encF, h]
theorem encF_pair (s : ByteArray) (f i : Nat) (h : i < ln s) (hp : prB s i = true) : encF s (f + 1) i = Lib.encodeRune (prP s i) ++ encF s f (i + 2) := by simp [encF, h, hp]
theorem encF_one (s : ByteArray) (f i : Nat) (h : i < ln s) (hp : prB s i = false) : encF s (f + 1) i = oneU (un s i) ++ encF s f (i + 1) := by simp [encF, h, hp]
theorem prB_parts (s : ByteArray) (i : Nat) (h : prB s i = true) : i + 1 < ln s ∧ 55296 ≤ un s i ∧ un s i < 56320 ∧ 56320 ≤ un s (i + 1) ∧ un s (i + 1) < 57344 := by
 simp [prB, hiB, loB] at h
 omega
theorem enc_le (r : Int) : (Lib.encodeRune r).length ≤ 4 := by
 have := Lib.runeCells_le r
 rw [Lib.runeCells_length] at this
 omega
theorem and_topE (u : Nat) (hu : u < 65536) : u &&& 64512 = u / 1024 * 1024 := by
 have h : u &&& 64512 = (u >>> 10) <<< 10 := by
  apply Nat.eq_of_testBit_eq
  intro i
  rw [Nat.testBit_and, Nat.testBit_shiftLeft, Nat.testBit_shiftRight, show 64512 = (2 ^ 6 - 1) <<< 10 from rfl, Nat.testBit_shiftLeft, Nat.testBit_two_pow_sub_one]
  by_cases h1 : 10 ≤ i
  ·rw [show 10 + (i - 10) = i by omega]
   by_cases h2 : i - 10 < 6
   ·simp [h1, h2]
   ·have : u.testBit i = false := Nat.testBit_lt_two_pow (Nat.lt_of_lt_of_le hu (by
     have : 2 ^ 16 ≤ 2 ^ i := Nat.pow_le_pow_right (by omega) (by omega)
     simpa using this))
    simp [this]
  ·simp [h1]
 rw [h, Nat.shiftLeft_eq, Nat.shiftRight_eq_div_pow]


end
section
open Go.RowKit
theorem and_hi (u : Nat) (hu : u < 65536) : bits BinOp.and IntKind.u16 (u : Int) 64512 = ((u / 1024 * 1024 : Nat) : Int) := by
 rw [show (64512 : Int) = ((64512 : Nat) : Int) from rfl, u16_and_nat _ _ hu (by omega), and_topE u hu]
theorem and_15 (u : Nat) (hu : u < 65536) : bits BinOp.and IntKind.u16 (u : Int) 15 = ((u % 16 : Nat) : Int) := by
 rw [show (15 : Int) = ((15 : Nat) : Int) from rfl, u16_and_nat _ _ hu (by omega), show (15 : Nat) = 2 ^ 4 - 1 from rfl, Nat.and_two_pow_sub_one_eq_mod u 4]
abbrev digs : ByteArray := { data := #[48, 49, 50, 51, 52, 53, 54, 55, 56, 57, 65, 66, 67, 68, 69, 70] }
theorem digs_at : ∀ k : Fin 16, (digs[k.val]'k.isLt).toNat = (hx k.val).toNat := by decide
theorem pairTest_hi (u : Nat) (hu : u < 65536) : ((bits BinOp.and IntKind.u16 (u : Int) 64512) == 55296) = hiB u := by
 rw [and_hi u hu, Bool.eq_iff_iff]
 simp [hiB]
 omega
theorem pairTest_lo (u : Nat) (hu : u < 65536) : ((bits BinOp.and IntKind.u16 (u : Int) 64512) == 56320) = loB u := by
 rw [and_hi u hu, Bool.eq_iff_iff]
 simp [loB]
 omega
theorem pair_any (s : ByteArray) (i : Nat) (w : World) (h : i < ln s) (hs : s.size ≤ maxLen) :
  Cp 87 #[.string s, .int .i64 i] w fun e w' => e = .returned (.bool (prB s i)) ∧ ∃ n, w' = w.drewN n := by
 have hl := ln_le s
 have hm : ((ln s : Nat) : Int) ≤ 4611686018427387903 := by unfold maxLen at hs; omega
 have hi : (i : Int) < (ln s : Int) := by omega
 have t1 := pairTest_hi (un s i) (un_lt s i)
 have t2 := pairTest_lo (un s (i + 1)) (un_lt s (i + 1))
 have HS := Lib.hid hs
 clear hs hl
 by_cases h1 : i + 1 < ln s
 ·have h1' : (i : Int) + 1 < (ln s : Int) := by omega
  have e1 : ((i : Int) + 1) = ((i + 1 : Nat) : Int) := by omega
  cases hA : hiB (un s i)
  ·rw [hA] at t1
   have HR := Lib.hid (show prB s i = false by simp [prB, hA])
   clear hA t2 e1
   go_enter Tryz.func87, Tryz.ntmps87
   go_wp2_with (first | (go_at_call 34; refine (len_any s _ HS.out).mono ?_; rintro e w' ⟨rfl, rfl⟩) | (go_at_call 85; refine (at_any s i _ h HS.out).mono ?_; rintro e w' ⟨rfl, n, rfl⟩))
   go_ret
   exact ⟨by rw [HR.out]; rfl, n, rfl⟩
  ·rw [hA] at t1
   have HR := Lib.hid (show prB s i = loB (un s (i + 1)) by simp [prB, hA, h1])
   have c2 : ∀ w, Cp 85 #[.string s, .int .i64 ((i : Int) + 1)] w fun e w' => e = .returned (.int .u16 (un s (i + 1))) ∧ ∃ n, w' = w.drewN n := fun w => by
    rw [e1]; exact at_any s (i + 1) w h1 HS.out
   clear hA e1
   go_enter Tryz.func87, Tryz.ntmps87
   go_wp2_with fail
   refine (len_any s _ HS.out).mono ?_
   rintro e w' ⟨rfl, rfl⟩
   go_wp2_with fail
   refine (at_any s i _ h HS.out).mono ?_
   rintro e w' ⟨rfl, n, rfl⟩
   go_wp2_with fail
   refine (c2 _).mono ?_
   rintro e w' ⟨rfl, n2, rfl⟩
   go_wp2
   go_ret
   exact ⟨by rw [HR.out]; rfl, n + n2, rfl⟩
 ·have h1' : ¬ ((i : Int) + 1 < (ln s : Int)) := by omega
  have HR := Lib.hid (show prB s i = false by simp [prB, h1])
  clear t1 t2
  go_enter Tryz.func87, Tryz.ntmps87
  go_wp2_with (first | (go_at_call 34; refine (len_any s _ HS.out).mono ?_; rintro e w' ⟨rfl, rfl⟩))
  go_ret
  exact ⟨by rw [HR.out]; rfl, 0, rfl⟩
theorem cells_one (l : List UInt8) (c : UInt8) : Lib.byteCells (l ++ [c]) = Lib.byteCells l ++ [Value.int .u8 c.toNat] := by
 rw [Lib.byteCells_append]; rfl
theorem digs_int (x : Nat) (h : (((x : Int) % 16).toNat) < digs.size) : ((digs[((x : Int) % 16).toNat]'h).toNat : Int) = ((hx (x % 16)).toNat : Int) := by
 have e : ((x : Int) % 16).toNat = x % 16 := by omega
 have := digs_at ⟨x % 16, Nat.mod_lt _ (by omega)⟩
 simp only [e]
 exact congrArg Nat.cast this
theorem esc_step (B : Nat) (l : List UInt8) (x : Nat) (w : World) (h : Bld B l w) (hlen : l.length + 1 ≤ 140737488355328) (hBw : B ≤ w.heap.size) (hk : (((x : Int) % 16).toNat) < digs.size) :
  Cp 121 #[.pointer (some ⟨B, 0, none⟩), .int .u8 ((digs[((x : Int) % 16).toNat]'hk).toNat)] w fun e w' => e = .returned .nilIface ∧ Bld B (l ++ [hx (x % 16)]) w' ∧ Below B w w' := by
 rw [digs_int x hk]
 refine (Tryz.Builder_WriteByte_k B B _ _ _ h (by rw [Lib.byteCells_length]; omega) hBw).mono ?_
 rintro e w' ⟨rfl, hb, bl, _⟩
 exact ⟨rfl, by rw [Bld, cells_one]; exact .inr hb, bl⟩
def EscRel (B : Nat) (l : List UInt8) (u : Nat) (w : World) (sh : Value) (wr : World) : Prop :=
 (sh = .int .i64 12 ∧ Bld B (l ++ [92, 117]) wr ∧ Below B w wr) ∨
 (sh = .int .i64 8 ∧ Bld B (l ++ [92, 117] ++ [hx (u / 4096 % 16)]) wr ∧ Below B w wr) ∨
 (sh = .int .i64 4 ∧ Bld B (l ++ [92, 117] ++ [hx (u / 4096 % 16)] ++ [hx (u / 256 % 16)]) wr ∧ Below B w wr) ∨
 (sh = .int .i64 0 ∧ Bld B (l ++ [92, 117] ++ [hx (u / 4096 % 16)] ++ [hx (u / 256 % 16)] ++ [hx (u / 16 % 16)]) wr ∧ Below B w wr) ∨
 (sh = .int .i64 (-4) ∧ Bld B (l ++ [92, 117] ++ [hx (u / 4096 % 16)] ++ [hx (u / 256 % 16)] ++ [hx (u / 16 % 16)] ++ [hx (u % 16)]) wr ∧ Below B w wr)
theorem writeEscape_any (B : Nat) (l : List UInt8) (u : Nat) (hu : u < 65536) (w : World) (h : Bld B l w) (hlen : l.length + 6 ≤ 140737488355328) (hBw : B ≤ w.heap.size) :
  Cp 88 #[.pointer (some ⟨B, 0, none⟩), .int .u16 u] w fun e w' => e = .returned (.tuple #[]) ∧ Bld B (l ++ esc u) w' ∧ Below B w w' := by
 have hs := Tryz.Builder_WriteString_k B B (Lib.byteCells l) { data := #[92, 117] } w h (by rw [Lib.byteCells_length]; show l.length + 2 ≤ _; omega) hBw
 have a1 : bits BinOp.and IntKind.u16 ((u : Int) / 4096) 15 = ((u : Int) / 4096) % 16 := and_15 (u / 4096) (by omega)
 have a2 : bits BinOp.and IntKind.u16 ((u : Int) / 256) 15 = ((u : Int) / 256) % 16 := and_15 (u / 256) (by omega)
 have a3 : bits BinOp.and IntKind.u16 ((u : Int) / 16) 15 = ((u : Int) / 16) % 16 := and_15 (u / 16) (by omega)
 have a4 : bits BinOp.and IntKind.u16 (u : Int) 15 = (u : Int) % 16 := and_15 u hu
 have H1 := Lib.hid hu
 have H2 := Lib.hid hlen
 clear hu hlen
 go_enter Tryz.func88, Tryz.ntmps88
 go_wp2_with fail
 refine hs.mono ?_
 rintro e w1 ⟨rfl, hb1, bl1, _⟩
 have hI1 : Bld B (l ++ [92, 117]) w1 := by rw [Bld, Lib.byteCells_append]; exact .inr hb1
 clear hs hb1
 go_wp2
 go_loopw [4] (fun sh wr => EscRel B l u w sh wr) (fun sh _ => (intOf sh + 4).toNat)
 case atStart => exact .inl ⟨rfl, hI1, bl1⟩
 case round =>
  rcases hrel with ⟨rfl, hI, hb⟩ | ⟨rfl, hI, hb⟩ | ⟨rfl, hI, hb⟩ | ⟨rfl, hI, hb⟩ | ⟨rfl, hI, hb⟩
  ·go_wp2_with (go_at_call 121; refine (esc_step B _ (u / 4096) _ hI (by have := H2.out; simp; omega) (Nat.le_trans hBw hb.size) _).mono ?_; rintro e w2 ⟨rfl, hI2, hb2⟩)
   go_roundw
   case rel => exact .inr (.inl ⟨rfl, hI2, hb.trans hb2⟩)
   case measure => simp [intOf]
  ·go_wp2_with (go_at_call 121; refine (esc_step B _ (u / 256) _ hI (by have := H2.out; simp; omega) (Nat.le_trans hBw hb.size) _).mono ?_; rintro e w2 ⟨rfl, hI2, hb2⟩)
   go_roundw
   case rel => exact .inr (.inr (.inl ⟨rfl, hI2, hb.trans hb2⟩))
   case measure => simp [intOf]
  ·go_wp2_with (go_at_call 121; refine (esc_step B _ (u / 16) _ hI (by have := H2.out; simp; omega) (Nat.le_trans hBw hb.size) _).mono ?_; rintro e w2 ⟨rfl, hI2, hb2⟩)
   go_roundw
   case rel => exact .inr (.inr (.inr (.inl ⟨rfl, hI2, hb.trans hb2⟩)))
   case measure => simp [intOf]
  ·go_wp2_with (go_at_call 121; refine (esc_step B _ u _ hI (by have := H2.out; simp; omega) (Nat.le_trans hBw hb.size) _).mono ?_; rintro e w2 ⟨rfl, hI2, hb2⟩)
   go_roundw
   case rel => exact .inr (.inr (.inr (.inr ⟨rfl, hI2, hb.trans hb2⟩)))
   case measure => simp [intOf]
  ·have he : l ++ esc u = l ++ [92, 117] ++ [hx (u / 4096 % 16)] ++ [hx (u / 256 % 16)] ++ [hx (u / 16 % 16)] ++ [hx (u % 16)] := by
    have := H1.out
    simp [esc, show u / 4096 % 16 = u / 4096 by omega]
   have HE := Lib.hid he
   clear he
   go_wp2
   go_end0
   exact ⟨rfl, by rw [HE.out]; exact hI, hb⟩


end
section
def hxU (d : Nat) : Nat := if d < 10 then 48 + d else 55 + d
def escU (c : Nat) : List Nat := [92, 117, hxU (c / 4096 % 16), hxU (c / 256 % 16), hxU (c / 16 % 16), hxU (c % 16)]
def quoU (c : Nat) : List Nat := if c = 34 ∨ c = 92 then [92, c] else if 32 ≤ c ∧ c ≤ 126 then [c] else escU c
def quoL (s : List Nat) : List Nat := 34 :: (s.flatMap quoU ++ [34])
def speU (c : Nat) : List Nat := if c < 128 then [c] else escU c
def speL (s : List Nat) : List Nat := s.flatMap speU
end
section
open Go.RowKit
theorem alloc_cells (w : World) (cs : List Value) (t : TypeId) : ∀ j u, cs[j]? = some u → (w.alloc (.cells cs.toArray t)).cell? (Addr.add ⟨w.heap.size, 0, none⟩ j) = some u := by
 intro j u h
 have h2 := heap_alloc_last w (.cells cs.toArray t)
 have e : Addr.add ⟨w.heap.size, 0, none⟩ j = ⟨w.heap.size, j, none⟩ := by
  unfold Addr.add
  by_cases hj : j = 0 <;> simp [hj]
 rw [e]
 unfold World.cell?
 simp only []
 rw [h2]
 simpa using h
theorem hx_U : ∀ d : Fin 16, (hx d.val).toNat = hxU d.val := by decide
theorem digs_U (x : Nat) (h : (((x : Int) % 16).toNat) < digs.size) : ((digs[((x : Int) % 16).toNat]'h).toNat : Int) = ((hxU (x % 16) : Nat) : Int) := by
 rw [digs_int x h]
 exact congrArg Nat.cast (hx_U ⟨x % 16, Nat.mod_lt _ (by omega)⟩)
theorem digs_W : ∀ k : Fin 16, IntKind.u16.wrap ((digs[k.val]'k.isLt).toNat : Int) = ((hxU k.val : Nat) : Int) := by decide
theorem digs_V (x : Nat) (h : x % 16 < digs.size) : IntKind.u16.wrap ((digs[x % 16]'h).toNat : Int) = ((hxU (x % 16) : Nat) : Int) := digs_W ⟨x % 16, Nat.mod_lt _ (by omega)⟩
theorem hxU_lt {d : Nat} (h : d < 16) : hxU d < 128 := by unfold hxU; split <;> omega
def SpRel (B : Nat) (l : List Nat) (u : Nat) (w : World) (v iv : Value) (wr : World) : Prop :=
 ∃ i : Nat, i ≤ 4 ∧ iv = .int .i64 i ∧ Own16 B (l ++ (escU u).take (2 + i)) v wr ∧ Below B w wr
theorem xspelt_any (B : Nat) (l : List Nat) (v : Value) (u : Nat) (w : World) (H : Own16 B l v w) (hB : B ≤ w.heap.size) (hu : u < 65536) (hl : l.length ≤ 1099511627776) :
  Cp 43 #[v, .int .u16 u] w fun e w' => ∃ v', e = .returned v' ∧ Own16 B (l ++ escU u) v' w' ∧ Below B w w' := by
 obtain ⟨i0, hi, hz0, hz1, hz2⟩ := info_parts info_u16
 have a1 : bits BinOp.and IntKind.u16 ((u : Int) / 4096) 15 = ((u : Int) / 4096) % 16 := and_15 (u / 4096) (by omega)
 have a2 : bits BinOp.and IntKind.u16 ((u : Int) / 256) 15 = ((u : Int) / 256) % 16 := and_15 (u / 256) (by omega)
 have a3 : bits BinOp.and IntKind.u16 ((u : Int) / 16) 15 = ((u : Int) / 16) % 16 := and_15 (u / 16) (by omega)
 have a4 : bits BinOp.and IntKind.u16 (u : Int) 15 = (u : Int) % 16 := and_15 u hu
 have HU := Lib.hid hu
 clear hu
 go_enter Tryz.func43, Tryz.ntmps43
 go_wp2_with (at_builtin; refine wpList_append_own _ rfl _ _ 57 rfl (B) 52 i0 (.int .u16 0) 1 2 Tryz.underlying57 hi hz0 hz1 hz2 rfl (by decide) _ _ _ rfl (World.ownsRow.alloc (w := w) H _) ⟨(w).heap.size, 0, none⟩ 2 2 [.int .u16 92, .int .u16 117] rfl rfl (alloc_cells _ _ _) (by simp [Value.oneCell']) (by unfold maxLen; omega) (by omega) (by first | omega | (simp; omega)) ?_)
 intro v1 w1 hown hg _
 have hb1 : Below B w w1 := ((Below.refl B w).alloc hB _).grown hg (by simp; omega) (fun j hj => (World.ownsRow.lt H j hj).1)
 have o1 : Own16 B (l ++ [92, 117]) v1 w1 := by simpa [Own16] using hown
 clear hown hg H
 go_wp2
 go_loopw [0, 9] (fun lv iv wr => SpRel B l u w lv iv wr) (fun _ iv _ => 4 - (intOf iv).toNat)
 case atStart => exact ⟨0, by omega, by go_num, o1, hb1⟩
 case round =>
  obtain ⟨i, hi4, rfl, H, hb⟩ := hrel
  have hBw : B ≤ wr.heap.size := Nat.le_trans hB hb.size
  have hcase : i = 0 ∨ i = 1 ∨ i = 2 ∨ i = 3 ∨ i = 4 := by omega
  rcases hcase with rfl | rfl | rfl | rfl | rfl
  ·go_wp2_with (at_builtin; refine wpList_append_own _ rfl _ _ 57 rfl B 52 i0 (.int .u16 0) 1 2 Tryz.underlying57 hi hz0 hz1 hz2 rfl (by decide) _ _ _ rfl (World.ownsRow.alloc (w := wr) H _) ⟨wr.heap.size, 0, none⟩ 1 1 [_] rfl rfl (alloc_cells _ [_] _) (by simp [Value.oneCell']) (by simp [maxLen]; omega) (by simp; omega) (by simp; omega) ?_)
   intro v2 w2 hown hg _
   rw [digs_V] at hown
   have hb2 : Below B w w2 := ((hb.alloc hBw _)).grown hg (by simp; omega) (fun j hj => (World.ownsRow.lt H j hj).1)
   have hlen : (l ++ (escU u).take (2 + 0)) ++ [hxU ((u / 4096) % 16)] = l ++ (escU u).take (2 + (0 + 1)) := by simp [escU]
   have o2 : Own16 B (l ++ (escU u).take (2 + (0 + 1))) v2 w2 := by
    rw [← hlen]
    simpa [Own16, Nat.add_assoc] using hown
   clear hown hg H hb
   go_wp2
   go_roundw
   case rel => exact ⟨0 + 1, by omega, by go_num, o2, hb2⟩
   case measure => simp [intOf]
  ·go_wp2_with (at_builtin; refine wpList_append_own _ rfl _ _ 57 rfl B 52 i0 (.int .u16 0) 1 2 Tryz.underlying57 hi hz0 hz1 hz2 rfl (by decide) _ _ _ rfl (World.ownsRow.alloc (w := wr) H _) ⟨wr.heap.size, 0, none⟩ 1 1 [_] rfl rfl (alloc_cells _ [_] _) (by simp [Value.oneCell']) (by simp [maxLen]; omega) (by simp; omega) (by simp; omega) ?_)
   intro v2 w2 hown hg _
   rw [digs_V] at hown
   have hb2 : Below B w w2 := ((hb.alloc hBw _)).grown hg (by simp; omega) (fun j hj => (World.ownsRow.lt H j hj).1)
   have hlen : (l ++ (escU u).take (2 + 1)) ++ [hxU ((u / 256) % 16)] = l ++ (escU u).take (2 + (1 + 1)) := by simp [escU]
   have o2 : Own16 B (l ++ (escU u).take (2 + (1 + 1))) v2 w2 := by
    rw [← hlen]
    simpa [Own16, Nat.add_assoc] using hown
   clear hown hg H hb
   go_wp2
   go_roundw
   case rel => exact ⟨1 + 1, by omega, by go_num, o2, hb2⟩
   case measure => simp [intOf]
  ·go_wp2_with (at_builtin; refine wpList_append_own _ rfl _ _ 57 rfl B 52 i0 (.int .u16 0) 1 2 Tryz.underlying57 hi hz0 hz1 hz2 rfl (by decide) _ _ _ rfl (World.ownsRow.alloc (w := wr) H _) ⟨wr.heap.size, 0, none⟩ 1 1 [_] rfl rfl (alloc_cells _ [_] _) (by simp [Value.oneCell']) (by simp [maxLen]; omega) (by simp; omega) (by simp; omega) ?_)
   intro v2 w2 hown hg _
   rw [digs_V] at hown
   have hb2 : Below B w w2 := ((hb.alloc hBw _)).grown hg (by simp; omega) (fun j hj => (World.ownsRow.lt H j hj).1)
   have hlen : (l ++ (escU u).take (2 + 2)) ++ [hxU ((u / 16) % 16)] = l ++ (escU u).take (2 + (2 + 1)) := by simp [escU]
   have o2 : Own16 B (l ++ (escU u).take (2 + (2 + 1))) v2 w2 := by
    rw [← hlen]
    simpa [Own16, Nat.add_assoc] using hown
   clear hown hg H hb
   go_wp2
   go_roundw
   case rel => exact ⟨2 + 1, by omega, by go_num, o2, hb2⟩
   case measure => simp [intOf]
  ·go_wp2_with (at_builtin; refine wpList_append_own _ rfl _ _ 57 rfl B 52 i0 (.int .u16 0) 1 2 Tryz.underlying57 hi hz0 hz1 hz2 rfl (by decide) _ _ _ rfl (World.ownsRow.alloc (w := wr) H _) ⟨wr.heap.size, 0, none⟩ 1 1 [_] rfl rfl (alloc_cells _ [_] _) (by simp [Value.oneCell']) (by simp [maxLen]; omega) (by simp; omega) (by simp; omega) ?_)
   intro v2 w2 hown hg _
   rw [digs_V] at hown
   have hb2 : Below B w w2 := ((hb.alloc hBw _)).grown hg (by simp; omega) (fun j hj => (World.ownsRow.lt H j hj).1)
   have hlen : (l ++ (escU u).take (2 + 3)) ++ [hxU ((u) % 16)] = l ++ (escU u).take (2 + (3 + 1)) := by simp [escU]
   have o2 : Own16 B (l ++ (escU u).take (2 + (3 + 1))) v2 w2 := by
    rw [← hlen]
    simpa [Own16, Nat.add_assoc] using hown
   clear hown hg H hb
   go_wp2
   go_roundw
   case rel => exact ⟨3 + 1, by omega, by go_num, o2, hb2⟩
   case measure => simp [intOf]
  ·have e : l ++ (escU u).take (2 + 4) = l ++ escU u := by simp [escU]
   rw [e] at H
   go_wp2
   go_ret
   exact ⟨_, rfl, H, hb⟩

end
section
open Go.RowKit
def comE (n : Nat) : Option (Nat × Bool) → Ending
 | none => .returned (.tuple #[.int .i64 (n : Int), .bool false, .bool false])
 | some p => .returned (.tuple #[.int .i64 ((p.1 : Nat) : Int), .bool p.2, .bool true])
def comP (k : Nat) (b : Bool) (p : Nat × Bool) : Nat × Bool := (k + p.1, b || p.2)
theorem comP_next (k : Nat) (b e : Bool) (o : Option (Nat × Bool)) : (o.map fun p => (p.1 + 1, e || p.2)).map (comP k b) = o.map (comP (k + 1) (b || e)) := by
 cases o with
 | none => rfl
 | some p =>
  simp only [Option.map_some, comP, Option.some.injEq, Prod.mk.injEq]
  exact ⟨by omega, by rw [Bool.or_assoc]⟩
theorem xcomment_any (s : ByteArray) (k : Nat) (w : World) (hs : s.size ≤ 140737488355328) (hk : k ≤ ln s) :
  Cp 103 #[.string s, .int .i64 k] w fun e w' => e = comE (ln s) ((comL ((us s).drop k)).map (comP k false)) ∧ ∃ n, w' = w.drewN n := by
 have hs63 : s.size ≤ maxLen := by unfold maxLen; omega
 have C1 := Lib.hid (fun W => len_any s W hs63)
 have C2 := Lib.hid (fun (j : Nat) W => xunit_any s j W hs63)
 have hln := ln_le s
 have hl : ((ln s : Nat) : Int) ≤ 140737488355328 := by omega
 have hkl : (k : Int) ≤ (ln s : Int) := by omega
 obtain ⟨R, hR⟩ : ∃ R, (comL ((us s).drop k)).map (comP k false) = R := ⟨_, rfl⟩
 rw [hR]
 have HR := Lib.hid hR
 have HK := Lib.hid hk
 clear hs hs63 hln hR hk
 go_enter Tryz.func103, Tryz.ntmps103
 go_wp2
 go_loopw [1, 7] (fun v nl wr => ∃ (j : Nat) (b : Bool), v = .int .i64 j ∧ nl = .bool b ∧ j ≤ ln s ∧ Hid (R = (comL ((us s).drop j)).map (comP j b)) ∧ ∃ n, wr = w.drewN n) (fun v _ _ => ln s - (intOf v).toNat)
 case atStart => exact ⟨k, false, rfl, rfl, HK.out, Lib.hid HR.out.symm, 0, rfl⟩
 case round =>
  obtain ⟨j, b, rfl, rfl, hj, HJ, n0, rfl⟩ := hrel
  by_cases hlt : j < ln s
  ·obtain ⟨c, hc1, hc2⟩ := drop_step (L := us s) (k := j) (by rw [us_length]; exact hlt)
   have C2' := Lib.hid (fun W => C2.out j W)
   rw [hc2] at C2'
   have C2'' := Lib.hid (fun W => C2.out (j + 1) W)
   obtain ⟨d, hd⟩ : ∃ d, hd0 ((us s).drop (j + 1)) = d := ⟨_, rfl⟩
   rw [hd, show (((j + 1 : Nat) : Int)) = (j : Int) + 1 by omega] at C2''
   have C3 := Lib.hid (fun W => ends_n c W)
   have t1 : (j : Int) < (ln s : Int) := by omega
   by_cases hm : c = 42 ∧ d = 47
   ·have HJ2 : Hid (R = some (j + 2, b)) := Lib.hid (by
     rw [HJ.out, hc1]
     unfold comL
     rw [hd, if_pos hm, Option.map_some, comP, Bool.or_false])
    obtain ⟨rfl, rfl⟩ := hm
    clear hc1 hc2 hd
    go_wp2_with fail
    refine (C1.out _).mono ?_
    rintro e w' ⟨rfl, rfl⟩
    go_wp2_with fail
    refine (C2'.out _).mono ?_
    rintro e w' ⟨rfl, n1, rfl⟩
    go_wp2_with fail
    refine (C2''.out _).mono ?_
    rintro e w' ⟨rfl, n2, rfl⟩
    go_wp2
    go_ret3
    exact ⟨by rw [HJ2.out]; rfl, n0 + n1 + n2, by first | rfl | simp⟩
   ·obtain ⟨f, hf⟩ : ∃ f, enN c = f := ⟨_, rfl⟩
    rw [hf] at C3
    have HJ2 : Hid (R = (comL ((us s).drop (j + 1))).map (comP (j + 1) (b || f))) := Lib.hid (by
     rw [HJ.out, hc1]
     conv => lhs; unfold comL
     rw [hd, if_neg hm, comP_next, hf])
    clear hc1 hc2 hd hf
    have hm2 : ((c : Int) ≠ 42) ∨ (c = 42 ∧ (d : Int) ≠ 47) := by omega
    clear hm
    rcases hm2 with hm2 | ⟨rfl, hm3⟩
    ·cases b
     ·go_wp2_with fail
      refine (C1.out _).mono ?_
      rintro e w' ⟨rfl, rfl⟩
      go_wp2_with fail
      refine (C2'.out _).mono ?_
      rintro e w' ⟨rfl, n1, rfl⟩
      go_wp2_with fail
      refine (C3.out _).mono ?_
      rintro e w' ⟨rfl, rfl⟩
      go_wp2
      go_roundw
      case rel => exact ⟨j + 1, f, by go_num, rfl, by omega, HJ2, n0 + n1, by first | rfl | simp⟩
      case measure => simp [intOf]; omega
     ·go_wp2_with fail
      refine (C1.out _).mono ?_
      rintro e w' ⟨rfl, rfl⟩
      go_wp2_with fail
      refine (C2'.out _).mono ?_
      rintro e w' ⟨rfl, n1, rfl⟩
      go_wp2_with fail
      go_roundw
      case rel => exact ⟨j + 1, true, by go_num, rfl, by omega, HJ2, n0 + n1, by first | rfl | simp⟩
      case measure => simp [intOf]; omega
    ·cases b
     ·go_wp2_with fail
      refine (C1.out _).mono ?_
      rintro e w' ⟨rfl, rfl⟩
      go_wp2_with fail
      refine (C2'.out _).mono ?_
      rintro e w' ⟨rfl, n1, rfl⟩
      go_wp2_with fail
      refine (C2''.out _).mono ?_
      rintro e w' ⟨rfl, n2, rfl⟩
      go_wp2_with fail
      refine (C3.out _).mono ?_
      rintro e w' ⟨rfl, rfl⟩
      go_wp2
      go_roundw
      case rel => exact ⟨j + 1, f, by go_num, rfl, by omega, HJ2, n0 + n1 + n2, by first | rfl | simp⟩
      case measure => simp [intOf]; omega
     ·go_wp2_with fail
      refine (C1.out _).mono ?_
      rintro e w' ⟨rfl, rfl⟩
      go_wp2_with fail
      refine (C2'.out _).mono ?_
      rintro e w' ⟨rfl, n1, rfl⟩
      go_wp2_with fail
      refine (C2''.out _).mono ?_
      rintro e w' ⟨rfl, n2, rfl⟩
      go_wp2_with fail
      go_roundw
      case rel => exact ⟨j + 1, true, by go_num, rfl, by omega, HJ2, n0 + n1 + n2, by first | rfl | simp⟩
      case measure => simp [intOf]; omega
  ·have hj2 : j = ln s := by omega
   have HJ2 : Hid (R = none) := Lib.hid (by
    rw [HJ.out, List.drop_eq_nil_iff.2 (by rw [us_length]; omega)]
    rfl)
   have t1 : ¬ (j : Int) < (ln s : Int) := by omega
   go_wp2_with (go_at_call 34; refine (C1.out _).mono ?_; rintro e w' ⟨rfl, rfl⟩)
   go_ret3
   exact ⟨by rw [HJ2.out]; rfl, n0, rfl⟩


end
section
open Go.RowKit
theorem drop_two {L : List Nat} {k : Nat} {c : Nat} {r : List Nat} (h : L.drop k = c :: r) : L.drop (k + 1) = r ∧ L.drop (k + 2) = r.tail := by
 constructor
 ·rw [← List.drop_drop, h]
  rfl
 ·rw [← List.drop_drop, h]
  cases r <;> rfl
theorem gapL_at (L : List Nat) (k : Nat) : gapL (L.drop k) =
  if enN (hd0 (L.drop k)) = true then some (1, true)
  else if spN (hd0 (L.drop k)) = true then some (1, false)
  else if hd0 (L.drop k) = 47 ∧ hd0 (L.drop (k + 1)) = 47 then some (2 + remL (L.drop (k + 2)), false)
  else if hd0 (L.drop k) = 47 ∧ hd0 (L.drop (k + 1)) = 42 then (comL (L.drop (k + 2))).map fun p => (2 + p.1, p.2)
  else some (0, false) := by
 rcases hd : L.drop k with _ | ⟨c, r⟩
 ·have h0 : hd0 ([] : List Nat) = 0 := rfl
  rw [h0, if_neg (by decide), if_neg (by decide), if_neg (by omega), if_neg (by omega)]
  rfl
 ·obtain ⟨h1, h2⟩ := drop_two hd
  have h0 : hd0 (c :: r) = c := rfl
  rw [h0, h1, h2]
  rfl
theorem hd0_lt {L : List Nat} {k : Nat} (h : hd0 (L.drop k) ≠ 0) : k < L.length := by
 rcases Nat.lt_or_ge k L.length with h1 | h1
 ·exact h1
 ·exact absurd (by rw [List.drop_eq_nil_iff.2 h1]; rfl) h
theorem xgap_any (s : ByteArray) (k : Nat) (w : World) (hs : s.size ≤ 140737488355328) (hk : k ≤ ln s) :
  Cp 65 #[.string s, .int .i64 k] w fun e w' => e = comE (ln s) ((gapL ((us s).drop k)).map (comP k false)) ∧ ∃ n, w' = w.drewN n := by
 have hs63 : s.size ≤ maxLen := by unfold maxLen; omega
 have hln := ln_le s
 have hkl : (k : Int) ≤ 140737488355328 := by omega
 have C1 := Lib.hid (fun W => xunit_any s k W hs63)
 have C2 := Lib.hid (fun W => xunit_any s (k + 1) W hs63)
 have C5 : k + 2 ≤ ln s → ∀ W, Cp 102 #[.string s, .int .i64 ((k : Int) + 2)] W fun e w' => e = .returned (.int .i64 ((k + 2 + remL ((us s).drop (k + 2)) : Nat) : Int)) ∧ ∃ n, w' = W.drewN n := fun h W => by
  rw [show (k : Int) + 2 = ((k + 2 : Nat) : Int) by omega]; exact xremark_any s (k + 2) W hs h
 have C6 : k + 2 ≤ ln s → ∀ W, Cp 103 #[.string s, .int .i64 ((k : Int) + 2)] W fun e w' => e = comE (ln s) ((comL ((us s).drop (k + 2))).map (comP (k + 2) false)) ∧ ∃ n, w' = W.drewN n := fun h W => by
  rw [show (k : Int) + 2 = ((k + 2 : Nat) : Int) by omega]; exact xcomment_any s (k + 2) W hs h
 have C5 := Lib.hid C5
 have C6 := Lib.hid C6
 have h2 : hd0 ((us s).drop (k + 1)) ≠ 0 → k + 2 ≤ ln s := fun h => by have := hd0_lt h; rw [us_length] at this; omega
 rw [gapL_at]
 obtain ⟨c, hc⟩ : ∃ c, hd0 ((us s).drop k) = c := ⟨_, rfl⟩
 obtain ⟨d, hd⟩ : ∃ d, hd0 ((us s).drop (k + 1)) = d := ⟨_, rfl⟩
 rw [hc] at C1 ⊢
 rw [hd, show (((k + 1 : Nat) : Int)) = (k : Int) + 1 by omega] at C2
 rw [hd] at h2 ⊢
 have C3 := Lib.hid (fun W => ends_n c W)
 have C4 := Lib.hid (fun W => space_n c W)
 clear hs hs63 hln hk hc hd
 cases he : enN c
 ·rw [he] at C3
  cases hsp : spN c
  ·rw [hsp] at C4
   rw [if_neg (by simp), if_neg (by simp)]
   clear he hsp
   by_cases h47 : c = 47
   ·subst h47
    by_cases hd47 : d = 47
    ·subst hd47
     have C5' := Lib.hid (C5.out (h2 (by omega)))
     obtain ⟨m, hm⟩ : ∃ m, remL ((us s).drop (k + 2)) = m := ⟨_, rfl⟩
     rw [if_pos ⟨rfl, rfl⟩, hm]
     rw [hm] at C5'
     clear hm C5 C6 h2
     go_enter Tryz.func65, Tryz.ntmps65
     go_wp2_with fail
     refine (C1.out _).mono ?_
     rintro e w' ⟨rfl, n1, rfl⟩
     go_wp2_with fail
     refine (C3.out _).mono ?_
     rintro e w' ⟨rfl, rfl⟩
     go_wp2_with fail
     refine (C4.out _).mono ?_
     rintro e w' ⟨rfl, rfl⟩
     go_wp2_with fail
     refine (C2.out _).mono ?_
     rintro e w' ⟨rfl, n2, rfl⟩
     go_wp2_with fail
     refine (C5'.out _).mono ?_
     rintro e w' ⟨rfl, n3, rfl⟩
     go_wp2
     go_ret3
     refine ⟨?_, n1 + n2 + n3, by first | rfl | simp⟩
     simp only [Option.map_some, comP, comE, Bool.false_or]
     rw [show k + (2 + m) = k + 2 + m by omega]
     rfl
    ·rw [if_neg (by omega)]
     by_cases hd42 : d = 42
     ·subst hd42
      have C6' := Lib.hid (C6.out (h2 (by omega)))
      obtain ⟨o, ho⟩ : ∃ o, comL ((us s).drop (k + 2)) = o := ⟨_, rfl⟩
      rw [if_pos ⟨rfl, rfl⟩, ho]
      rw [ho] at C6'
      have hE : comE (ln s) ((o.map fun p => (2 + p.1, p.2)).map (comP k false)) = comE (ln s) (o.map (comP (k + 2) false)) := by
       cases o with
       | none => rfl
       | some p => simp only [Option.map_some, comP]; rw [show k + (2 + p.1) = k + 2 + p.1 by omega]
      rw [hE]
      clear ho C5 C6 h2 hE hd47
      go_enter Tryz.func65, Tryz.ntmps65
      go_wp2_with fail
      refine (C1.out _).mono ?_
      rintro e w' ⟨rfl, n1, rfl⟩
      go_wp2_with fail
      refine (C3.out _).mono ?_
      rintro e w' ⟨rfl, rfl⟩
      go_wp2_with fail
      refine (C4.out _).mono ?_
      rintro e w' ⟨rfl, rfl⟩
      go_wp2_with fail
      refine (C2.out _).mono ?_
      rintro e w' ⟨rfl, n2, rfl⟩
      go_wp2_with fail
      refine (C2.out _).mono ?_
      rintro e w' ⟨rfl, n3, rfl⟩
      go_wp2_with fail
      refine (C6'.out _).mono ?_
      rintro e w' ⟨rfl, n4, rfl⟩
      cases o
      ·simp only [Option.map_none, comE]
       go_wp2
       go_ret3
       exact ⟨rfl, n1 + n2 + n3 + n4, by first | rfl | simp⟩
      ·simp only [Option.map_some, comE]
       go_wp2
       go_ret3
       exact ⟨rfl, n1 + n2 + n3 + n4, by first | rfl | simp⟩
     ·rw [if_neg (by omega)]
      have g1 : (d : Int) ≠ 47 := by omega
      have g2 : (d : Int) ≠ 42 := by omega
      clear C5 C6 h2 hd47 hd42
      go_enter Tryz.func65, Tryz.ntmps65
      go_wp2_with fail
      refine (C1.out _).mono ?_
      rintro e w' ⟨rfl, n1, rfl⟩
      go_wp2_with fail
      refine (C3.out _).mono ?_
      rintro e w' ⟨rfl, rfl⟩
      go_wp2_with fail
      refine (C4.out _).mono ?_
      rintro e w' ⟨rfl, rfl⟩
      go_wp2_with fail
      refine (C2.out _).mono ?_
      rintro e w' ⟨rfl, n2, rfl⟩
      go_wp2_with fail
      refine (C2.out _).mono ?_
      rintro e w' ⟨rfl, n3, rfl⟩
      go_wp2
      go_ret3
      exact ⟨rfl, n1 + n2 + n3, by first | rfl | simp⟩
   ·rw [if_neg (by omega), if_neg (by omega)]
    have g1 : (c : Int) ≠ 47 := by omega
    clear C5 C6 h2 h47
    go_enter Tryz.func65, Tryz.ntmps65
    go_wp2_with fail
    refine (C1.out _).mono ?_
    rintro e w' ⟨rfl, n1, rfl⟩
    go_wp2_with fail
    refine (C3.out _).mono ?_
    rintro e w' ⟨rfl, rfl⟩
    go_wp2_with fail
    refine (C4.out _).mono ?_
    rintro e w' ⟨rfl, rfl⟩
    go_wp2
    go_ret3
    exact ⟨rfl, n1, by first | rfl | simp⟩
  ·rw [hsp] at C4
   rw [if_neg (by simp), if_pos (by rfl)]
   clear he hsp C5 C6 h2
   go_enter Tryz.func65, Tryz.ntmps65
   go_wp2_with fail
   refine (C1.out _).mono ?_
   rintro e w' ⟨rfl, n1, rfl⟩
   go_wp2_with fail
   refine (C3.out _).mono ?_
   rintro e w' ⟨rfl, rfl⟩
   go_wp2_with fail
   refine (C4.out _).mono ?_
   rintro e w' ⟨rfl, rfl⟩
   go_wp2
   go_ret3
   exact ⟨rfl, n1, by first | rfl | simp⟩
 ·rw [he] at C3
  rw [if_pos (by rfl)]
  clear he C5 C6 h2
  go_enter Tryz.func65, Tryz.ntmps65
  go_wp2_with fail
  refine (C1.out _).mono ?_
  rintro e w' ⟨rfl, n1, rfl⟩
  go_wp2_with fail
  refine (C3.out _).mono ?_
  rintro e w' ⟨rfl, rfl⟩
  go_wp2
  go_ret3
  exact ⟨rfl, n1, by first | rfl | simp⟩


end
section
open Go.RowKit
theorem take_snocL {L : List Nat} {i c : Nat} {r : List Nat} (h : L.drop i = c :: r) : L.take (i + 1) = L.take i ++ [c] := by
 have h1 : L[i]? = some c := by
  have := List.getElem?_drop (xs := L) (i := i) (j := 0)
  rw [h] at this
  simpa using this.symm
 rw [List.take_add_one, h1]
 rfl
theorem quoU_len (c : Nat) : (quoU c).length ≤ 6 := by unfold quoU escU; split; simp; split <;> simp
theorem speU_len (c : Nat) : (speU c).length ≤ 6 := by unfold speU escU; split <;> simp
theorem flat_len {f : Nat → List Nat} (hf : ∀ c, (f c).length ≤ 6) : ∀ l : List Nat, (l.flatMap f).length ≤ 6 * l.length
 | [] => by simp
 | c :: l => by
  rw [List.flatMap_cons, List.length_append, List.length_cons]
  have := hf c
  have := flat_len hf l
  omega
theorem own_one (w : World) (c : Nat) : Own16 w.heap.size [c] (.slice (some ⟨w.heap.size, 0, none⟩) 1 1) (w.alloc (.cells #[.int .u16 (c : Nat)] 52)) :=
 ⟨rfl, .inr ⟨w.heap.size, 1, #[.int .u16 (c : Nat)], rfl, Nat.le_refl _, heap_alloc_last w _, Nat.le_refl _, by unfold maxLen; omega, rfl, rfl⟩⟩
theorem hxU_w {d : Nat} (h : d < 16) : hxU d < 65536 := by have := hxU_lt h; omega
theorem escU_lt (c : Nat) : ∀ u ∈ escU c, u < 65536 := by
 intro u hu
 unfold escU at hu
 simp at hu
 have h1 := hxU_w (d := c / 4096 % 16) (by omega)
 have h2 := hxU_w (d := c / 256 % 16) (by omega)
 have h3 := hxU_w (d := c / 16 % 16) (by omega)
 have h4 := hxU_w (d := c % 16) (by omega)
 rcases hu with rfl | rfl | rfl | rfl | rfl | rfl <;> omega
theorem quoU_lt {c : Nat} (hc : c < 65536) : ∀ u ∈ quoU c, u < 65536 := by
 intro u hu
 unfold quoU at hu
 split at hu
 ·simp at hu; omega
 ·split at hu
  ·simp at hu; omega
  ·exact escU_lt c u hu
theorem speU_lt {c : Nat} (hc : c < 65536) : ∀ u ∈ speU c, u < 65536 := by
 intro u hu
 unfold speU at hu
 split at hu
 ·simp at hu; omega
 ·exact escU_lt c u hu
theorem xQuote_any (s : ByteArray) (w : World) (hs : s.size ≤ 274877906944) :
  Ct 22 #[.string s] (.string ⟨(bL (quoL (us s))).toArray⟩) w := by
 have hs63 : s.size ≤ maxLen := by unfold maxLen; omega
 obtain ⟨i0, hi, hz0, hz1, hz2⟩ := info_parts info_u16
 have hln := ln_le s
 have CL := Lib.hid (fun W => len_any s W hs63)
 have CU := Lib.hid (fun (j : Nat) W => xunit_any s j W hs63)
 have CP := Lib.hid (fun (l : List Nat) (v : Value) (u : Nat) W (H : Own16 w.heap.size l v W) hB hu hl => xspelt_any w.heap.size l v u W H hB hu hl)
 have CM := Lib.hid (fun (l : List Nat) (v : Value) W (H : Own16 w.heap.size l v W) hu hl => make_own H hu hl)
 obtain ⟨R, hR⟩ : ∃ R, quoL (us s) = R := ⟨_, rfl⟩
 rw [hR]
 have HR := Lib.hid hR
 have HL := Lib.hid (show ln s ≤ 137438953472 by omega)
 obtain ⟨n, hn⟩ : ∃ n, ln s = n := ⟨_, rfl⟩
 have HN := Lib.hid hn
 rw [hn] at CL
 have CL := Lib.hid CL.out
 clear hs hs63 hln hn hR
 go_enter Tryz.func22, Tryz.ntmps22
 go_wp2_with fail
 refine (CL.out _).mono ?_
 rintro e w' ⟨rfl, rfl⟩
 go_wp2
 go_loopw [3, 9] (fun lv iv wr => ∃ (i : Nat) (v : Value), lv = v ∧ iv = .int .i64 i ∧ i ≤ n ∧ Own16 w.heap.size (34 :: ((us s).take i).flatMap quoU) v wr ∧ Below w.heap.size w wr) (fun _ iv _ => n - (intOf iv).toNat)
 case atStart => exact ⟨0, _, rfl, by go_num, Nat.zero_le _, own_one w 34, (Below.refl _ _).alloc (Nat.le_refl _) _⟩
 case round =>
  obtain ⟨i, v, hv, rfl, hin, H, hb⟩ := hrel
  obtain rfl := hv.symm
  have hsz := hb.size
  have hil : (i : Int) ≤ 137438953472 := by have := HL.out; have := HN.out; omega
  obtain ⟨A, hA⟩ : ∃ A, 34 :: ((us s).take i).flatMap quoU = A := ⟨_, rfl⟩
  have hAl : A.length ≤ 824633720833 := by
   rw [← hA, List.length_cons]
   have h1 := flat_len quoU_len ((us s).take i)
   have h2 := List.length_take_le i (us s)
   have := HL.out; have := HN.out
   omega
  have hAu : ∀ u ∈ A, u < 65536 := by
   intro u hu
   rw [← hA] at hu
   simp at hu
   rcases hu with rfl | ⟨c, hc, hu⟩
   ·omega
   ·exact quoU_lt (us_lt s c (List.mem_of_mem_take hc)) u hu
  rw [hA] at H
  have HA := Lib.hid hA
  have HAu := Lib.hid hAu
  clear hA hAu hv
  rcases Nat.lt_or_ge i n with hlt | hge
  ·obtain ⟨c, hd1, hd2⟩ := drop_step (L := us s) (k := i) (by rw [us_length, HN.out]; exact hlt)
   have HC : Hid (c < 65536) := Lib.hid (us_lt s c (List.mem_of_mem_drop (by rw [hd1]; simp)))
   have HS : Hid (34 :: ((us s).take (i + 1)).flatMap quoU = A ++ quoU c) := Lib.hid (by
    rw [take_snocL hd1, List.flatMap_append, ← HA.out]
    simp)
   have C1 := CU.out i
   rw [hd2] at C1
   have C1 := Lib.hid C1
   clear hd1 hd2
   by_cases e1 : c = 34 ∨ c = 92
   ·have HQ : Hid (quoU c = [92, c]) := Lib.hid (by unfold quoU; rw [if_pos e1])
    rcases e1 with rfl | rfl
    all_goals
     go_wp2_with fail
     refine (C1.out _).mono ?_
     rintro e w' ⟨rfl, n1, rfl⟩
     go_wp2_with (at_builtin; refine wpList_append_own _ rfl _ _ 57 rfl (w.heap.size) 52 i0 (.int .u16 0) 1 2 Tryz.underlying57 hi hz0 hz1 hz2 rfl (by decide) _ _ _ rfl (World.ownsRow.alloc (w := wr.drewN n1) H _) ⟨(wr.drewN n1).heap.size, 0, none⟩ 2 2 [_, _] rfl rfl (alloc_cells _ _ _) (by simp [Value.oneCell']) (by unfold maxLen; omega) (by omega) (by first | omega | (simp; omega)) ?_)
     intro v2 w2 hown hg _
     have hb2 : Below w.heap.size w w2 := ((below_drewN' hb n1).alloc (by simpa using hsz) _).grown hg (by simp; omega) (fun j hj => (World.ownsRow.lt H j hj).1)
     have o2 := Lib.hid (show Own16 w.heap.size (A ++ quoU _) v2 w2 from by rw [HQ.out]; simpa [Own16] using hown)
     clear hown hg H hb
     go_wp2
     go_roundw
     case rel => exact ⟨i + 1, v2, rfl, by go_num, hlt, by rw [HS.out]; exact o2.out, hb2⟩
     case measure => simp [intOf]; omega
   ·have g1 : ((c : Int) == 34) = false := by rw [beq_eq_false_iff_ne]; omega
    have g2 : ((c : Int) == 92) = false := by rw [beq_eq_false_iff_ne]; omega
    by_cases e2 : 32 ≤ c ∧ c ≤ 126
    ·have HQ : Hid (quoU c = [c]) := Lib.hid (by unfold quoU; rw [if_neg e1, if_pos e2])
     have g3 : (32 : Int) ≤ (c : Int) := by omega
     have g4 : (c : Int) ≤ 126 := by omega
     clear e1 e2
     go_wp2_with fail
     refine (C1.out _).mono ?_
     rintro e w' ⟨rfl, n1, rfl⟩
     go_wp2_with (at_builtin; refine wpList_append_own _ rfl _ _ 57 rfl (w.heap.size) 52 i0 (.int .u16 0) 1 2 Tryz.underlying57 hi hz0 hz1 hz2 rfl (by decide) _ _ _ rfl (World.ownsRow.alloc (w := wr.drewN n1) H _) ⟨(wr.drewN n1).heap.size, 0, none⟩ 1 1 [_] rfl rfl (alloc_cells _ _ _) (by simp [Value.oneCell']) (by unfold maxLen; omega) (by omega) (by first | omega | (simp; omega)) ?_)
     intro v2 w2 hown hg _
     have hb2 : Below w.heap.size w w2 := ((below_drewN' hb n1).alloc (by simpa using hsz) _).grown hg (by simp; omega) (fun j hj => (World.ownsRow.lt H j hj).1)
     have o2 := Lib.hid (show Own16 w.heap.size (A ++ quoU c) v2 w2 from by rw [HQ.out]; simpa [Own16] using hown)
     clear hown hg H hb
     go_wp2
     go_roundw
     case rel => exact ⟨i + 1, v2, rfl, by go_num, hlt, by rw [HS.out]; exact o2.out, hb2⟩
     case measure => simp [intOf]; omega
    ·have HQ : Hid (quoU c = escU c) := Lib.hid (by unfold quoU; rw [if_neg e1, if_neg e2])
     have hw : ¬ ((32 : Int) ≤ (c : Int)) ∨ ((32 : Int) ≤ (c : Int) ∧ ¬ ((c : Int) ≤ 126)) := by omega
     clear e1 e2
     rcases hw with g3 | ⟨g3, g4⟩
     all_goals
      go_wp2_with fail
      refine (C1.out _).mono ?_
      rintro e w' ⟨rfl, n1, rfl⟩
      go_wp2_with fail
      refine (CP.out A v c (wr.drewN n1) H (by simpa using hsz) HC.out (by omega)).mono ?_
      rintro e w2 ⟨v2, rfl, o2, b2⟩
      have hb2 : Below w.heap.size w w2 := (below_drewN' hb n1).trans b2
      have o3 := Lib.hid (show Own16 w.heap.size (A ++ quoU c) v2 w2 from by rw [HQ.out]; exact o2)
      clear o2 b2 H hb
      go_wp2
      go_roundw
      case rel => exact ⟨i + 1, v2, rfl, by go_num, hlt, by rw [HS.out]; exact o3.out, hb2⟩
      case measure => simp [intOf]; omega
  ·obtain rfl : i = n := by omega
   obtain rfl : R = A ++ [34] := by
    rw [← HR.out, ← HA.out, ← HN.out, us_take_all]
    rfl
   go_wp2_with (at_builtin; refine wpList_append_own _ rfl _ _ 57 rfl (w.heap.size) 52 i0 (.int .u16 0) 1 2 Tryz.underlying57 hi hz0 hz1 hz2 rfl (by decide) _ _ _ rfl (World.ownsRow.alloc (w := wr) H _) ⟨(wr).heap.size, 0, none⟩ 1 1 [_] rfl rfl (alloc_cells _ _ _) (by simp [Value.oneCell']) (by unfold maxLen; omega) (by omega) (by first | omega | (simp; omega)) ?_)
   intro v2 w2 hown hg _
   have hb2 : Below w.heap.size w w2 := (hb.alloc hsz _).grown hg (by simp; omega) (fun j hj => (World.ownsRow.lt H j hj).1)
   have o2 : Own16 w.heap.size (A ++ [34]) v2 w2 := by simpa [Own16] using hown
   have HB2 := Lib.hid hb2
   clear hown hg H hb hb2
   go_wp2_with fail
   refine (CM.out (A ++ [34]) v2 w2 o2 (fun u hu => by
    rcases List.mem_append.1 hu with h | h
    ·exact HAu.out u h
    ·simp at h; omega) (by rw [List.length_append, List.length_singleton]; omega)).mono ?_
   rintro e w3 ⟨rfl, b3⟩
   have HB3 := Lib.hid (below_le HB2.out b3)
   clear b3
   go_wp2
   go_ret
   exact ⟨rfl, HB3.out⟩
theorem xSpell_any (s : ByteArray) (w : World) (hs : s.size ≤ 274877906944) :
  Cp 16 #[.string s] w fun e w' => e = (if nmdL (us s) = true then .returned (.tuple #[.string ⟨(bL (speL (us s))).toArray⟩, .int .i64 0]) else .returned (.tuple #[.string ⟨#[]⟩, .int .i64 1])) ∧ Below w.heap.size w w' := by
 have hs63 : s.size ≤ maxLen := by unfold maxLen; omega
 obtain ⟨i0, hi, hz0, hz1, hz2⟩ := info_parts info_u16
 have hln := ln_le s
 have CL := Lib.hid (fun W => len_any s W hs63)
 have CU := Lib.hid (fun (j : Nat) W => xunit_any s j W hs63)
 have CP := Lib.hid (fun (l : List Nat) (v : Value) (u : Nat) W (H : Own16 w.heap.size l v W) hB hu hl => xspelt_any w.heap.size l v u W H hB hu hl)
 have CM := Lib.hid (fun (l : List Nat) (v : Value) W (H : Own16 w.heap.size l v W) hu hl => make_own H hu hl)
 have CD := fun W => xNamed_any s W (by omega)
 obtain ⟨b, hb⟩ : ∃ b, nmdL (us s) = b := ⟨_, rfl⟩
 rw [hb] at CD ⊢
 have CD := Lib.hid CD
 obtain ⟨R, hR⟩ : ∃ R, speL (us s) = R := ⟨_, rfl⟩
 rw [hR]
 have HR := Lib.hid hR
 have HL := Lib.hid (show ln s ≤ 137438953472 by omega)
 obtain ⟨n, hn⟩ : ∃ n, ln s = n := ⟨_, rfl⟩
 have HN := Lib.hid hn
 rw [hn] at CL
 have CL := Lib.hid CL.out
 clear hs hs63 hln hn hR hb
 cases b
 ·rw [if_neg (by simp)]
  go_enter Tryz.func16, Tryz.ntmps16
  go_wp2_with fail
  refine (CD.out _).mono ?_
  rintro e w' ⟨rfl, n0, rfl⟩
  go_wp2
  go_ret2
  exact ⟨rfl, below_drewN' (Below.refl _ _) n0⟩
 rw [if_pos rfl]
 go_enter Tryz.func16, Tryz.ntmps16
 go_wp2_with fail
 refine (CD.out _).mono ?_
 rintro e w' ⟨rfl, n0, rfl⟩
 go_wp2_with fail
 refine (CL.out _).mono ?_
 rintro e w' ⟨rfl, rfl⟩
 go_wp2
 go_loopw [4, 12] (fun lv iv wr => ∃ (i : Nat) (v : Value), lv = v ∧ iv = .int .i64 i ∧ i ≤ n ∧ Own16 w.heap.size (((us s).take i).flatMap speU) v wr ∧ Below w.heap.size w wr) (fun _ iv _ => n - (intOf iv).toNat)
 case atStart => exact ⟨0, _, rfl, by go_num, Nat.zero_le _, Own16.nil _ _, below_drewN' (Below.refl _ _) n0⟩
 case round =>
  obtain ⟨i, v, hv, rfl, hin, H, hb⟩ := hrel
  obtain rfl := hv.symm
  have hsz := hb.size
  have hil : (i : Int) ≤ 137438953472 := by have := HL.out; have := HN.out; omega
  obtain ⟨A, hA⟩ : ∃ A, ((us s).take i).flatMap speU = A := ⟨_, rfl⟩
  have hAl : A.length ≤ 824633720833 := by
   rw [← hA]
   have h1 := flat_len speU_len ((us s).take i)
   have h2 := List.length_take_le i (us s)
   have := HL.out; have := HN.out
   omega
  have hAu : ∀ u ∈ A, u < 65536 := by
   intro u hu
   rw [← hA] at hu
   simp at hu
   obtain ⟨c, hc, hu⟩ := hu
   exact speU_lt (us_lt s c (List.mem_of_mem_take hc)) u hu
  rw [hA] at H
  have HA := Lib.hid hA
  have HAu := Lib.hid hAu
  clear hA hAu hv
  rcases Nat.lt_or_ge i n with hlt | hge
  ·obtain ⟨c, hd1, hd2⟩ := drop_step (L := us s) (k := i) (by rw [us_length, HN.out]; exact hlt)
   have HC : Hid (c < 65536) := Lib.hid (us_lt s c (List.mem_of_mem_drop (by rw [hd1]; simp)))
   have HS : Hid (((us s).take (i + 1)).flatMap speU = A ++ speU c) := Lib.hid (by
    rw [take_snocL hd1, List.flatMap_append, ← HA.out]
    simp)
   have C1 := CU.out i
   rw [hd2] at C1
   have C1 := Lib.hid C1
   clear hd1 hd2
   by_cases e1 : c < 128
   ·have HQ : Hid (speU c = [c]) := Lib.hid (by unfold speU; rw [if_pos e1])
    have g3 : (c : Int) < 128 := by omega
    clear e1
    go_wp2_with fail
    refine (C1.out _).mono ?_
    rintro e w' ⟨rfl, n1, rfl⟩
    go_wp2_with (at_builtin; refine wpList_append_own _ rfl _ _ 57 rfl (w.heap.size) 52 i0 (.int .u16 0) 1 2 Tryz.underlying57 hi hz0 hz1 hz2 rfl (by decide) _ _ _ rfl (World.ownsRow.alloc (w := wr.drewN n1) H _) ⟨(wr.drewN n1).heap.size, 0, none⟩ 1 1 [_] rfl rfl (alloc_cells _ _ _) (by simp [Value.oneCell']) (by unfold maxLen; omega) (by omega) (by first | omega | (simp; omega)) ?_)
    intro v2 w2 hown hg _
    have hb2 : Below w.heap.size w w2 := ((below_drewN' hb n1).alloc (by simpa using hsz) _).grown hg (by simp; omega) (fun j hj => (World.ownsRow.lt H j hj).1)
    have o2 := Lib.hid (show Own16 w.heap.size (A ++ speU c) v2 w2 from by rw [HQ.out]; simpa [Own16] using hown)
    clear hown hg H hb
    go_wp2
    go_roundw
    case rel => exact ⟨i + 1, v2, rfl, by go_num, hlt, by rw [HS.out]; exact o2.out, hb2⟩
    case measure => simp [intOf]; omega
   ·have HQ : Hid (speU c = escU c) := Lib.hid (by unfold speU; rw [if_neg e1])
    have g3 : ¬ ((c : Int) < 128) := by omega
    clear e1
    go_wp2_with fail
    refine (C1.out _).mono ?_
    rintro e w' ⟨rfl, n1, rfl⟩
    go_wp2_with fail
    refine (CP.out A v c (wr.drewN n1) H (by simpa using hsz) HC.out (by omega)).mono ?_
    rintro e w2 ⟨v2, rfl, o2, b2⟩
    have hb2 : Below w.heap.size w w2 := (below_drewN' hb n1).trans b2
    have o3 := Lib.hid (show Own16 w.heap.size (A ++ speU c) v2 w2 from by rw [HQ.out]; exact o2)
    clear o2 b2 H hb
    go_wp2
    go_roundw
    case rel => exact ⟨i + 1, v2, rfl, by go_num, hlt, by rw [HS.out]; exact o3.out, hb2⟩
    case measure => simp [intOf]; omega
  ·obtain rfl : i = n := by omega
   obtain rfl : R = A := by
    rw [← HR.out, ← HA.out, ← HN.out, us_take_all]
    rfl
   have HB2 := Lib.hid hb
   clear hb
   go_wp2_with fail
   refine (CM.out R v wr H HAu.out (by omega)).mono ?_
   rintro e w3 ⟨rfl, b3⟩
   have HB3 := Lib.hid (below_le HB2.out b3)
   clear b3
   go_wp2
   go_ret2
   exact ⟨rfl, HB3.out⟩

end
section
open Go.RowKit
theorem digs_hi (x : Nat) (hx : x < 65536) (h : (((x : Int) / 4096).toNat) < digs.size) : ((digs[((x : Int) / 4096).toNat]'h).toNat : Int) = ((hxU (x / 4096 % 16) : Nat) : Int) := by
 have e : ((x : Int) / 4096).toNat = x / 4096 % 16 := by omega
 have h1 := digs_at ⟨x / 4096 % 16, Nat.mod_lt _ (by omega)⟩
 have h2 := hx_U ⟨x / 4096 % 16, Nat.mod_lt _ (by omega)⟩
 simp only [e]
 exact congrArg Nat.cast (h1.trans h2)
theorem escU_low (c : Nat) : ∀ u ∈ escU c, u < 128 := by
 intro u hu
 unfold escU at hu
 have h1 := fun d (h : d < 16) => hxU_lt h
 simp at hu
 rcases hu with rfl | rfl | rfl | rfl | rfl | rfl
 ·omega
 ·omega
 all_goals exact h1 _ (Nat.mod_lt _ (by omega))
abbrev OwnB (B : Nat) (l : List Nat) (v : Value) (w : World) : Prop := w.ownsRow B 5 1 v l.length (l.map fun u => Value.int .u8 (u : Nat))
theorem ownB_string {B : Nat} {l : List Nat} {v : Value} {w : World} (h : OwnB B l v w) (hl : ∀ u ∈ l, u < 256) : (convert 60 9 v).run Tryz.prog w = .ok (.string ⟨(l.map UInt8.ofNat).toArray⟩) w := by
 have e : Lib.byteCells (l.map UInt8.ofNat) = l.map fun u => Value.int .u8 (u : Nat) := by
  unfold Lib.byteCells
  rw [List.map_map]
  refine List.map_congr_left (fun u hu => ?_)
  show Value.int .u8 ((UInt8.ofNat u).toNat : Int) = _
  rw [UInt8.toNat_ofNat', Nat.mod_eq_of_lt (hl u hu)]
 have h2 : Own B (l.map UInt8.ofNat) v w := by
  unfold Own
  rw [List.length_map, e]
  exact h
 exact own_string h2
theorem wdL_ofNat {l : List Nat} (hl : ∀ u ∈ l, u < 256) : wdL ⟨(l.map UInt8.ofNat).toArray⟩ = l := by
 unfold wdL
 show ((l.map UInt8.ofNat).map fun b => b.toNat) = l
 rw [List.map_map]
 conv => rhs; rw [← List.map_id l]
 refine List.map_congr_left (fun u hu => ?_)
 show (UInt8.ofNat u).toNat = u
 rw [UInt8.toNat_ofNat', Nat.mod_eq_of_lt (hl u hu)]
theorem escB_below {B m n : Nat} {l : List Nat} {v : Value} {wr w9 : World} {o : Obj} (h : ((wr.drewN m).alloc o).grownBy w9 v.ownBlock) (hI : OwnB B l v wr) (hB : B ≤ wr.heap.size) : Below B (wr.drewN n) w9 := by
 have h0 : Below B (wr.drewN n) (wr.drewN m) := ⟨rfl, rfl, rfl, Nat.le_refl _, fun _ _ => rfl⟩
 exact (h0.alloc hB o).grown h (by simp; omega) (fun j hj => (World.ownsRow.lt hI j hj).1)
theorem ownB_one (w : World) (c : Nat) : OwnB w.heap.size [c] (.slice (some ⟨w.heap.size, 0, none⟩) 1 1) (w.alloc (.cells #[.int .u8 (c : Nat)] 5)) :=
 ⟨rfl, .inr ⟨w.heap.size, 1, #[.int .u8 (c : Nat)], rfl, Nat.le_refl _, heap_alloc_last w _, Nat.le_refl _, by unfold maxLen; omega, rfl, rfl⟩⟩
theorem quoU_low (c : Nat) : ∀ u ∈ quoU c, u < 128 := by
 intro u hu
 unfold quoU at hu
 split at hu
 ·rename_i h; simp at hu; omega
 ·split at hu
  ·rename_i h; simp at hu; omega
  ·exact escU_low c u hu
theorem speU_low (c : Nat) : ∀ u ∈ speU c, u < 128 := by
 intro u hu
 unfold speU at hu
 split at hu
 ·rename_i h; simp at hu; omega
 ·exact escU_low c u hu
theorem zescaped_any (B : Nat) (l : List Nat) (v : Value) (u : Nat) (w : World) (H : OwnB B l v w) (hB : B ≤ w.heap.size) (hu : u < 65536) (hl : l.length ≤ 1099511627776) :
  Cp 46 #[v, .int .u16 u] w fun e w' => ∃ v', e = .returned v' ∧ OwnB B (l ++ escU u) v' w' ∧ Below B w w' := by
 obtain ⟨i0, hi, hz0, hz1, hz2⟩ := info_parts info5
 have a2 : bits BinOp.and IntKind.u16 ((u : Int) / 256) 15 = ((u : Int) / 256) % 16 := and_15 (u / 256) (by omega)
 have a3 : bits BinOp.and IntKind.u16 ((u : Int) / 16) 15 = ((u : Int) / 16) % 16 := and_15 (u / 16) (by omega)
 have a4 : bits BinOp.and IntKind.u16 (u : Int) 15 = (u : Int) % 16 := and_15 u hu
 have g1 : 0 ≤ (u : Int) / 4096 := by omega
 have g2 : (u : Int) / 4096 < 16 := by omega
 have g31 : 0 ≤ (u : Int) / 256 % 16 := by omega
 have g32 : (u : Int) / 256 % 16 < 16 := by omega
 have g41 : 0 ≤ (u : Int) / 16 % 16 := by omega
 have g42 : (u : Int) / 16 % 16 < 16 := by omega
 have g51 : 0 ≤ (u : Int) % 16 := by omega
 have g52 : (u : Int) % 16 < 16 := by omega
 have e1 : ∀ h, ((digs[((u : Int) / 4096).toNat]'h).toNat : Int) = ((hxU (u / 4096 % 16) : Nat) : Int) := fun h => digs_hi u hu h
 have e2 : ∀ h, ((digs[((u : Int) / 256 % 16).toNat]'h).toNat : Int) = ((hxU (u / 256 % 16) : Nat) : Int) := fun h => digs_U (u / 256) h
 have e3 : ∀ h, ((digs[((u : Int) / 16 % 16).toNat]'h).toNat : Int) = ((hxU (u / 16 % 16) : Nat) : Int) := fun h => digs_U (u / 16) h
 have e4 : ∀ h, ((digs[((u : Int) % 16).toNat]'h).toNat : Int) = ((hxU (u % 16) : Nat) : Int) := fun h => digs_U u h
 have HS : Hid (∀ v' w', w'.ownsRow B 5 1 v' (l.length + 6) ((l.map fun u => Value.int .u8 (u : Nat)) ++ [.int .u8 92, .int .u8 117, .int .u8 ((hxU (u / 4096 % 16) : Nat) : Int), .int .u8 ((hxU (u / 256 % 16) : Nat) : Int), .int .u8 ((hxU (u / 16 % 16) : Nat) : Int), .int .u8 ((hxU (u % 16) : Nat) : Int)]) → OwnB B (l ++ escU u) v' w') := Lib.hid (fun v' w' h => by
  unfold OwnB
  rw [List.length_append, List.map_append]
  exact h)
 have HONE : ∀ x ∈ [Value.int .u8 92, .int .u8 117, .int .u8 ((hxU (u / 4096 % 16) : Nat) : Int), .int .u8 ((hxU (u / 256 % 16) : Nat) : Int), .int .u8 ((hxU (u / 16 % 16) : Nat) : Int), .int .u8 ((hxU (u % 16) : Nat) : Int)], x.oneCell' = true := by simp [Value.oneCell']
 obtain ⟨x1, hx1⟩ : ∃ x, hxU (u / 4096 % 16) = x := ⟨_, rfl⟩
 obtain ⟨x2, hx2⟩ : ∃ x, hxU (u / 256 % 16) = x := ⟨_, rfl⟩
 obtain ⟨x3, hx3⟩ : ∃ x, hxU (u / 16 % 16) = x := ⟨_, rfl⟩
 obtain ⟨x4, hx4⟩ : ∃ x, hxU (u % 16) = x := ⟨_, rfl⟩
 rw [hx1, hx2, hx3, hx4] at HS HONE
 rw [hx1] at e1
 rw [hx2] at e2
 rw [hx3] at e3
 rw [hx4] at e4
 have HM63 : l.length + 6 ≤ maxLen := by unfold maxLen; omega
 have HBY : (l.length + 6) * 1 ≤ 140737488355328 := by omega
 have HBA : ∀ o, B ≤ (w.alloc o).heap.size := fun o => by simp; omega
 have HONE := Lib.hid HONE
 have HM63 := Lib.hid HM63
 have HBY := Lib.hid HBY
 have HBA := Lib.hid HBA
 have HBW := Lib.hid hB
 clear hu hl hx1 hx2 hx3 hx4 hB
 go_enter Tryz.func46, Tryz.ntmps46
 go_wp2
 go_region_law (refine step_append_lies _ rfl (.tmp 5) (.tmp 20) 60 rfl B 5 i0 (.int .u8 0) 1 1 Tryz.underlying60 hi hz0 hz1 hz2 rfl (by decide) _ l.length (l.map fun u => Value.int .u8 (u : Nat)) (by simp [Act.eval]) (World.ownsRow.alloc H _) ⟨w.heap.size, 0, none⟩ 6 6 [Value.int .u8 92, .int .u8 117, .int .u8 ((x1 : Nat) : Int), .int .u8 ((x2 : Nat) : Int), .int .u8 ((x3 : Nat) : Int), .int .u8 ((x4 : Nat) : Int)] (by simp [Act.eval]) rfl (alloc_cells _ _ _) HONE.out (by decide) HM63.out HBY.out (HBA.out _) _ rfl ?_; intro g cap w9 hown hgrow _ _)
 all_goals
  go_wp2
  go_ret
  exact ⟨_, rfl, HS.out _ _ (by assumption), escB_below (n := 0) (by assumption) H HBW.out⟩
theorem zQuote_any (s : ByteArray) (w : World) (hs : s.size ≤ 1048576) :
  Ct 23 #[.string s] (.string ⟨(bL (quoL (us s))).toArray⟩) w := by
 have hs63 : s.size ≤ maxLen := by unfold maxLen; omega
 obtain ⟨i0, hi, hz0, hz1, hz2⟩ := info_parts info5
 have hln := ln_le s
 have CL := Lib.hid (fun W => rlen_any s W hs63)
 have CU := Lib.hid (fun (j : Nat) W => zat_any s j W hs63)
 have CP := Lib.hid (fun (l : List Nat) (v : Value) (u : Nat) W (H : OwnB w.heap.size l v W) hB hu hl => zescaped_any w.heap.size l v u W H hB hu hl)
 obtain ⟨R, hR⟩ : ∃ R, quoL (us s) = R := ⟨_, rfl⟩
 rw [hR]
 have HR := Lib.hid hR
 have HL := Lib.hid (show ln s ≤ 1048576 by omega)
 have CW := Lib.hid (fun (X : ByteArray) (h : X.size ≤ 35184372088832) W => rwide_any X W h)
 obtain ⟨n, hn⟩ : ∃ n, ln s = n := ⟨_, rfl⟩
 have HN := Lib.hid hn
 rw [hn] at CL
 have CL := Lib.hid CL.out
 clear hs hs63 hln hn hR
 go_enter Tryz.func23, Tryz.ntmps23
 go_wp2
 go_loopw [3, 4] (fun lv iv wr => ∃ (i : Nat) (v : Value), lv = v ∧ iv = .int .i64 i ∧ i ≤ n ∧ OwnB w.heap.size (34 :: ((us s).take i).flatMap quoU) v wr ∧ Below w.heap.size w wr) (fun _ iv _ => n - (intOf iv).toNat)
 case atStart => exact ⟨0, _, rfl, by go_num, Nat.zero_le _, ownB_one w 34, (Below.refl _ _).alloc (Nat.le_refl _) _⟩
 case round =>
  obtain ⟨i, v, hv, rfl, hin, H, hb⟩ := hrel
  obtain rfl := hv.symm
  have hsz := hb.size
  have hil : (i : Int) ≤ 137438953472 := by have := HL.out; have := HN.out; omega
  obtain ⟨A, hA⟩ : ∃ A, 34 :: ((us s).take i).flatMap quoU = A := ⟨_, rfl⟩
  have hAl : A.length ≤ 824633720833 := by
   rw [← hA]
   rw [List.length_cons]
   have h1 := flat_len quoU_len ((us s).take i)
   have h2 := List.length_take_le i (us s)
   have := HL.out; have := HN.out
   omega
  have hAu : ∀ u ∈ A, u < 128 := by
   intro u hu
   rw [← hA] at hu
   simp at hu
   rcases hu with rfl | ⟨c, hc, hu⟩
   ·omega
   ·exact quoU_low c u hu
  rw [hA] at H
  have HA := Lib.hid hA
  have HAu := Lib.hid hAu
  clear hA hAu hv
  rcases Nat.lt_or_ge i n with hlt | hge
  ·obtain ⟨c, hd1, hd2⟩ := drop_step (L := us s) (k := i) (by rw [us_length, HN.out]; exact hlt)
   have HC : Hid (c < 65536) := Lib.hid (us_lt s c (List.mem_of_mem_drop (by rw [hd1]; simp)))
   have HS : Hid (34 :: ((us s).take (i + 1)).flatMap quoU = A ++ quoU c) := Lib.hid (by
    rw [take_snocL hd1, List.flatMap_append, ← HA.out]
    simp)
   have C1 := CU.out i
   rw [hd1, zU_cons] at C1
   have C1 := Lib.hid C1
   have t1 : (i : Int) < (n : Int) := by omega
   clear hd1 hd2
   by_cases e1 : c = 34 ∨ c = 92
   ·have HQ : Hid (quoU c = [92, c]) := Lib.hid (by unfold quoU; rw [if_pos e1])
    rcases e1 with rfl | rfl
    all_goals
     go_wp2_with fail
     refine (CL.out _).mono ?_
     rintro e w' ⟨rfl, rfl⟩
     go_wp2_with fail
     refine (C1.out _).mono ?_
     rintro e w' ⟨rfl, n1, rfl⟩
     go_wp2_with (at_builtin; refine wpList_append_own _ rfl _ _ 60 rfl (w.heap.size) 5 i0 (.int .u8 0) 1 1 Tryz.underlying60 hi hz0 hz1 hz2 rfl (by decide) _ _ _ rfl (World.ownsRow.alloc (w := wr.drewN n1) H _) ⟨(wr.drewN n1).heap.size, 0, none⟩ 2 2 [_, _] rfl rfl (alloc_cells _ _ _) (by simp [Value.oneCell']) (by unfold maxLen; omega) (by omega) (by first | omega | (simp; omega)) ?_)
     intro v2 w2 hown hg _
     have hb2 : Below w.heap.size w w2 := ((below_drewN' hb n1).alloc (by simpa using hsz) _).grown hg (by simp; omega) (fun j hj => (World.ownsRow.lt H j hj).1)
     have o2 := Lib.hid (show OwnB w.heap.size (A ++ quoU _) v2 w2 from by rw [HQ.out]; simpa [OwnB] using hown)
     clear hown hg H hb
     go_wp2
     go_roundw
     case rel => exact ⟨i + 1, v2, rfl, by go_num, hlt, by rw [HS.out]; exact o2.out, hb2⟩
     case measure => simp [intOf]; omega
   ·have g1 : ((c : Int) == 34) = false := by rw [beq_eq_false_iff_ne]; omega
    have g2 : ((c : Int) == 92) = false := by rw [beq_eq_false_iff_ne]; omega
    by_cases e2 : 32 ≤ c ∧ c ≤ 126
    ·have HQ : Hid (quoU c = [c]) := Lib.hid (by unfold quoU; rw [if_neg e1, if_pos e2])
     have g3 : (32 : Int) ≤ (c : Int) := by omega
     have g4 : (c : Int) ≤ 126 := by omega
     have hw : IntKind.u8.wrap (c : Int) = (c : Int) := IntWalk.u8_in _ (by omega)
     clear e1 e2
     go_wp2_with fail
     refine (CL.out _).mono ?_
     rintro e w' ⟨rfl, rfl⟩
     go_wp2_with fail
     refine (C1.out _).mono ?_
     rintro e w' ⟨rfl, n1, rfl⟩
     go_wp2_with (at_builtin; refine wpList_append_own _ rfl _ _ 60 rfl (w.heap.size) 5 i0 (.int .u8 0) 1 1 Tryz.underlying60 hi hz0 hz1 hz2 rfl (by decide) _ _ _ rfl (World.ownsRow.alloc (w := wr.drewN n1) H _) ⟨(wr.drewN n1).heap.size, 0, none⟩ 1 1 [_] rfl rfl (alloc_cells _ _ _) (by simp [Value.oneCell']) (by unfold maxLen; omega) (by omega) (by first | omega | (simp; omega)) ?_)
     intro v2 w2 hown hg _
     have hb2 : Below w.heap.size w w2 := ((below_drewN' hb n1).alloc (by simpa using hsz) _).grown hg (by simp; omega) (fun j hj => (World.ownsRow.lt H j hj).1)
     have o2 := Lib.hid (show OwnB w.heap.size (A ++ quoU _) v2 w2 from by rw [HQ.out]; simpa [OwnB] using hown)
     clear hown hg H hb
     go_wp2
     go_roundw
     case rel => exact ⟨i + 1, v2, rfl, by go_num, hlt, by rw [HS.out]; exact o2.out, hb2⟩
     case measure => simp [intOf]; omega
    ·have HQ : Hid (quoU c = escU c) := Lib.hid (by unfold quoU; rw [if_neg e1, if_neg e2])
     have hw : ¬ ((32 : Int) ≤ (c : Int)) ∨ ((32 : Int) ≤ (c : Int) ∧ ¬ ((c : Int) ≤ 126)) := by omega
     clear e1 e2
     rcases hw with g3 | ⟨g3, g4⟩
     all_goals
      go_wp2_with fail
      refine (CL.out _).mono ?_
      rintro e w' ⟨rfl, rfl⟩
      go_wp2_with fail
      refine (C1.out _).mono ?_
      rintro e w' ⟨rfl, n1, rfl⟩
      go_wp2_with fail
      refine (CP.out A v c (wr.drewN n1) H (by simpa using hsz) HC.out (by omega)).mono ?_
      rintro e w2 ⟨v2, rfl, o2, b2⟩
      have hb2 : Below w.heap.size w w2 := (below_drewN' hb n1).trans b2
      have o3 := Lib.hid (show OwnB w.heap.size (A ++ quoU c) v2 w2 from by rw [HQ.out]; exact o2)
      clear o2 b2 H hb
      go_wp2
      go_roundw
      case rel => exact ⟨i + 1, v2, rfl, by go_num, hlt, by rw [HS.out]; exact o3.out, hb2⟩
      case measure => simp [intOf]; omega
  ·obtain rfl : i = n := by omega
   obtain rfl : R = A ++ [34] := by
    rw [← HR.out, ← HA.out, ← HN.out, us_take_all]
    rfl
   have t1 : ¬ (i : Int) < (i : Int) := by omega
   clear t1
   have HU : Hid (∀ u ∈ A ++ [34], u < 256) := Lib.hid (fun u hu => by
    rcases List.mem_append.1 hu with h | h
    ·have := HAu.out u h; omega
    ·simp at h; omega)
   go_wp2_with fail
   refine (CL.out _).mono ?_
   rintro e w' ⟨rfl, rfl⟩
   go_wp2_with (at_builtin; refine wpList_append_own _ rfl _ _ 60 rfl (w.heap.size) 5 i0 (.int .u8 0) 1 1 Tryz.underlying60 hi hz0 hz1 hz2 rfl (by decide) _ _ _ rfl (World.ownsRow.alloc (w := wr) H _) ⟨(wr).heap.size, 0, none⟩ 1 1 [_] rfl rfl (alloc_cells _ _ _) (by simp [Value.oneCell']) (by unfold maxLen; omega) (by omega) (by first | omega | (simp; omega)) ?_)
   intro v2 w2 hown hg _
   have hb2 : Below w.heap.size w w2 := (hb.alloc hsz _).grown hg (by simp; omega) (fun j hj => (World.ownsRow.lt H j hj).1)
   have o2 : OwnB w.heap.size (A ++ [34]) v2 w2 := by simpa [OwnB] using hown
   have hcv := ownB_string o2 HU.out
   have CW2 := fun W => CW.out ⟨((A ++ [34]).map UInt8.ofNat).toArray⟩ (by
    show ((A ++ [34]).map UInt8.ofNat).toArray.size ≤ _
    rw [List.size_toArray, List.length_map, List.length_append, List.length_singleton]
    omega) W
   rw [wdL_ofNat HU.out] at CW2
   obtain ⟨X, hX⟩ : ∃ X : ByteArray, (⟨((A ++ [34]).map UInt8.ofNat).toArray⟩ : ByteArray) = X := ⟨_, rfl⟩
   rw [hX] at hcv CW2
   have CW2 := Lib.hid CW2
   have HB2 := Lib.hid hb2
   clear hown hg H hb hb2 o2 hX
   go_wp2_with fail
   refine (CW2.out _).mono ?_
   rintro e w3 ⟨rfl, b3⟩
   have HB3 := Lib.hid (below_le HB2.out b3)
   clear b3
   go_wp2
   go_ret
   exact ⟨rfl, HB3.out⟩
theorem zSpell_any (s : ByteArray) (w : World) (hs : s.size ≤ 1048576) :
  Cp 17 #[.string s] w fun e w' => e = (if nmdL (us s) = true then .returned (.tuple #[.string ⟨(bL (speL (us s))).toArray⟩, .int .i64 0]) else .returned (.tuple #[.string ⟨#[]⟩, .int .i64 1])) ∧ Below w.heap.size w w' := by
 have hs63 : s.size ≤ maxLen := by unfold maxLen; omega
 obtain ⟨i0, hi, hz0, hz1, hz2⟩ := info_parts info5
 have hln := ln_le s
 have CL := Lib.hid (fun W => rlen_any s W hs63)
 have CU := Lib.hid (fun (j : Nat) W => zat_any s j W hs63)
 have CP := Lib.hid (fun (l : List Nat) (v : Value) (u : Nat) W (H : OwnB w.heap.size l v W) hB hu hl => zescaped_any w.heap.size l v u W H hB hu hl)
 have CD := fun W => zNamed_any s W (by omega)
 obtain ⟨b, hb⟩ : ∃ b, nmdL (us s) = b := ⟨_, rfl⟩
 rw [hb] at CD ⊢
 have CD := Lib.hid CD
 obtain ⟨R, hR⟩ : ∃ R, speL (us s) = R := ⟨_, rfl⟩
 rw [hR]
 have HR := Lib.hid hR
 have HL := Lib.hid (show ln s ≤ 1048576 by omega)
 have CW := Lib.hid (fun (X : ByteArray) (h : X.size ≤ 35184372088832) W => rwide_any X W h)
 obtain ⟨n, hn⟩ : ∃ n, ln s = n := ⟨_, rfl⟩
 have HN := Lib.hid hn
 rw [hn] at CL
 have CL := Lib.hid CL.out
 clear hs hs63 hln hn hR hb
 cases b
 ·rw [if_neg (by simp)]
  go_enter Tryz.func17, Tryz.ntmps17
  go_wp2_with fail
  refine (CD.out _).mono ?_
  rintro e w' ⟨rfl, n0, rfl⟩
  go_wp2
  go_ret2
  exact ⟨rfl, below_drewN' (Below.refl _ _) n0⟩
 rw [if_pos rfl]
 go_enter Tryz.func17, Tryz.ntmps17
 go_wp2_with fail
 refine (CD.out _).mono ?_
 rintro e w' ⟨rfl, n0, rfl⟩
 go_wp2
 go_loopw [4, 5] (fun lv iv wr => ∃ (i : Nat) (v : Value), lv = v ∧ iv = .int .i64 i ∧ i ≤ n ∧ OwnB w.heap.size (((us s).take i).flatMap speU) v wr ∧ Below w.heap.size w wr) (fun _ iv _ => n - (intOf iv).toNat)
 case atStart => exact ⟨0, _, rfl, by go_num, Nat.zero_le _, World.ownsRow_nil _ _ _ _, below_drewN' (Below.refl _ _) n0⟩
 case round =>
  obtain ⟨i, v, hv, rfl, hin, H, hb⟩ := hrel
  obtain rfl := hv.symm
  have hsz := hb.size
  have hil : (i : Int) ≤ 137438953472 := by have := HL.out; have := HN.out; omega
  obtain ⟨A, hA⟩ : ∃ A, ((us s).take i).flatMap speU = A := ⟨_, rfl⟩
  have hAl : A.length ≤ 824633720833 := by
   rw [← hA]
   skip
   have h1 := flat_len speU_len ((us s).take i)
   have h2 := List.length_take_le i (us s)
   have := HL.out; have := HN.out
   omega
  have hAu : ∀ u ∈ A, u < 128 := by
   intro u hu
   rw [← hA] at hu
   simp at hu
   obtain ⟨c, hc, hu⟩ := hu
   skip
   exact speU_low c u hu
  rw [hA] at H
  have HA := Lib.hid hA
  have HAu := Lib.hid hAu
  clear hA hAu hv
  rcases Nat.lt_or_ge i n with hlt | hge
  ·obtain ⟨c, hd1, hd2⟩ := drop_step (L := us s) (k := i) (by rw [us_length, HN.out]; exact hlt)
   have HC : Hid (c < 65536) := Lib.hid (us_lt s c (List.mem_of_mem_drop (by rw [hd1]; simp)))
   have HS : Hid (((us s).take (i + 1)).flatMap speU = A ++ speU c) := Lib.hid (by
    rw [take_snocL hd1, List.flatMap_append, ← HA.out]
    simp)
   have C1 := CU.out i
   rw [hd1, zU_cons] at C1
   have C1 := Lib.hid C1
   have t1 : (i : Int) < (n : Int) := by omega
   clear hd1 hd2
   by_cases e1 : c < 128
   ·have HQ : Hid (speU c = [c]) := Lib.hid (by unfold speU; rw [if_pos e1])
    have g3 : (c : Int) < 128 := by omega
    have hw : IntKind.u8.wrap (c : Int) = (c : Int) := IntWalk.u8_in _ (by omega)
    clear e1
    go_wp2_with fail
    refine (CL.out _).mono ?_
    rintro e w' ⟨rfl, rfl⟩
    go_wp2_with fail
    refine (C1.out _).mono ?_
    rintro e w' ⟨rfl, n1, rfl⟩
    go_wp2_with (at_builtin; refine wpList_append_own _ rfl _ _ 60 rfl (w.heap.size) 5 i0 (.int .u8 0) 1 1 Tryz.underlying60 hi hz0 hz1 hz2 rfl (by decide) _ _ _ rfl (World.ownsRow.alloc (w := wr.drewN n1) H _) ⟨(wr.drewN n1).heap.size, 0, none⟩ 1 1 [_] rfl rfl (alloc_cells _ _ _) (by simp [Value.oneCell']) (by unfold maxLen; omega) (by omega) (by first | omega | (simp; omega)) ?_)
    intro v2 w2 hown hg _
    have hb2 : Below w.heap.size w w2 := ((below_drewN' hb n1).alloc (by simpa using hsz) _).grown hg (by simp; omega) (fun j hj => (World.ownsRow.lt H j hj).1)
    have o2 := Lib.hid (show OwnB w.heap.size (A ++ speU _) v2 w2 from by rw [HQ.out]; simpa [OwnB] using hown)
    clear hown hg H hb
    go_wp2
    go_roundw
    case rel => exact ⟨i + 1, v2, rfl, by go_num, hlt, by rw [HS.out]; exact o2.out, hb2⟩
    case measure => simp [intOf]; omega
   ·have HQ : Hid (speU c = escU c) := Lib.hid (by unfold speU; rw [if_neg e1])
    have g3 : ¬ ((c : Int) < 128) := by omega
    clear e1
    go_wp2_with fail
    refine (CL.out _).mono ?_
    rintro e w' ⟨rfl, rfl⟩
    go_wp2_with fail
    refine (C1.out _).mono ?_
    rintro e w' ⟨rfl, n1, rfl⟩
    go_wp2_with fail
    refine (CP.out A v c (wr.drewN n1) H (by simpa using hsz) HC.out (by omega)).mono ?_
    rintro e w2 ⟨v2, rfl, o2, b2⟩
    have hb2 : Below w.heap.size w w2 := (below_drewN' hb n1).trans b2
    have o3 := Lib.hid (show OwnB w.heap.size (A ++ speU c) v2 w2 from by rw [HQ.out]; exact o2)
    clear o2 b2 H hb
    go_wp2
    go_roundw
    case rel => exact ⟨i + 1, v2, rfl, by go_num, hlt, by rw [HS.out]; exact o3.out, hb2⟩
    case measure => simp [intOf]; omega
  ·obtain rfl : i = n := by omega
   obtain rfl : R = A := by
    rw [← HR.out, ← HA.out, ← HN.out, us_take_all]
    rfl
   have HU : Hid (∀ u ∈ R, u < 256) := Lib.hid (fun u hu => by have := HAu.out u hu; omega)
   have hcv := ownB_string H HU.out
   have CW2 := fun W => CW.out ⟨(R.map UInt8.ofNat).toArray⟩ (by
    show (R.map UInt8.ofNat).toArray.size ≤ _
    rw [List.size_toArray, List.length_map]
    omega) W
   rw [wdL_ofNat HU.out] at CW2
   obtain ⟨X, hX⟩ : ∃ X : ByteArray, (⟨(R.map UInt8.ofNat).toArray⟩ : ByteArray) = X := ⟨_, rfl⟩
   rw [hX] at hcv CW2
   have CW2 := Lib.hid CW2
   have HB2 := Lib.hid hb
   clear H hb hX
   go_wp2_with fail
   refine (CL.out _).mono ?_
   rintro e w' ⟨rfl, rfl⟩
   go_wp2_with fail
   refine (CW2.out _).mono ?_
   rintro e w3 ⟨rfl, b3⟩
   have HB3 := Lib.hid (below_le HB2.out b3)
   clear b3
   go_wp2
   go_ret2
   exact ⟨rfl, HB3.out⟩

end
section
open Go.RowKit
theorem cells_rune (l : List UInt8) (r : Int) : Lib.byteCells (l ++ Lib.encodeRune r) = Lib.byteCells l ++ Lib.runeCells r := by
 rw [Lib.byteCells_append, Lib.byteCells_encodeRune]
theorem writeRune_any (B : Nat) (l : List UInt8) (r : Int) (h0 : 0 ≤ r) (h1 : r ≤ 1114111) (w : World) (h : Bld B l w) (hlen : l.length + 4 ≤ 140737488355328) (hBw : B ≤ w.heap.size) :
  Cp 86 #[.pointer (some ⟨B, 0, none⟩), .int .i32 r] w fun e w' => e = .returned (.tuple #[.int .i64 (Lib.runeCells r).length, .nilIface]) ∧ Bld B (l ++ Lib.encodeRune r) w' ∧ Below B w w' := by
 refine (Tryz.Builder_WriteRune_k B B _ r (by omega) (by omega) _ h (by rw [Lib.byteCells_length]; omega) hBw).mono ?_
 rintro e w' ⟨rfl, hb, bl, _⟩
 exact ⟨rfl, by rw [Bld, cells_rune]; exact .inr hb, bl⟩
theorem bld_drewN {B : Nat} {l : List UInt8} {w : World} (h : Bld B l w) (n : Nat) : Bld B l (w.drewN n) := h
theorem encode_any (s : ByteArray) (w : World) (hs : s.size ≤ 17592186044416) :
  Ct 47 #[.string s] (.string ⟨(encS s).toArray⟩) w := by
 have hl := ln_le s
 have hm : ((ln s : Nat) : Int) ≤ 8796093022208 := by omega
 have hs63 : s.size ≤ maxLen := by unfold maxLen; omega
 have HS := Lib.hid hs
 have HL := Lib.hid hl
 have H63 := Lib.hid hs63
 clear hs hl hs63
 have hg : Cp 83 #[.pointer (some ⟨w.heap.size, 0, none⟩), .int .i64 (ln s)] (w.alloc (.cells #[.pointer none, .slice none 0 0] 85)) fun e w' => e = .returned (.tuple #[]) ∧ (Lib.BuilderAt 85 5 w.heap.size w.heap.size (.pointer (some ⟨w.heap.size, 0, none⟩)) [] w' ∧ Below w.heap.size (w.alloc (.cells #[.pointer none, .slice none 0 0] 85)) w') :=
  Tryz.Builder_Grow_fresh w.heap.size w.heap.size (ln s) _ (Nat.le_refl _) (alloc_new w _) (by simp) (by have := HS.out; have := HL.out; omega)
 go_enter Tryz.func47, Tryz.ntmps47
 go_wp2_with fail
 refine (len_any s _ H63.out).mono ?_
 rintro e w' ⟨rfl, rfl⟩
 go_wp2_with fail
 refine hg.mono ?_
 rintro e w1 ⟨rfl, hb1, bl1⟩
 have hbl : Below w.heap.size w w1 := ((Below.refl w.heap.size w).alloc (Nat.le_refl _) _).trans bl1
 clear hg
 go_wp2
 go_loopw [4] (fun i wr => ∃ (k fuel : Nat) (acc : List UInt8), i = .int .i64 k ∧ k ≤ ln s ∧ Bld w.heap.size acc wr ∧ Below w.heap.size w wr ∧ acc ++ encF s fuel k = encS s ∧ ln s ≤ k + fuel ∧ acc.length ≤ 6 * k) (fun i _ => ln s - (intOf i).toNat)
 case atStart => exact ⟨0, ln s, [], rfl, Nat.zero_le _, Lib.IsBuilderF.of (.inr hb1), hbl, rfl, by omega, by simp⟩
 case round =>
  obtain ⟨k, fuel, acc, rfl, hk, hI, hbw, hacc, hfu, hal⟩ := hrel
  have HA := Lib.hid hacc
  clear hacc
  have hsz := bld_lt hI
  have c1 := fun W => len_any s W H63.out
  by_cases hlt : k < ln s
  ·obtain ⟨f, rfl⟩ : ∃ f, fuel = f + 1 := ⟨fuel - 1, by omega⟩
   have c2 := fun W => at_any s k W hlt H63.out
   have c3 := fun W => pair_any s k W hlt H63.out
   have hu := un_lt s k
   have hbl2 : acc.length + 6 ≤ 140737488355328 := by have := HS.out; have := HL.out; omega
   cases hp : prB s k
   ·cases h1 : (hiB (un s k) || loB (un s k))
    ·have hA : oneU (un s k) = Lib.encodeRune (un s k) := by unfold oneU; rw [h1]; rfl
     have HG := Lib.hid (show (acc ++ Lib.encodeRune (un s k)) ++ encF s f (k + 1) = encS s by rw [← HA.out, encF_one s f k hlt hp, hA, List.append_assoc])
     have hlen : (acc ++ Lib.encodeRune (un s k)).length ≤ 6 * (k + 1) := by rw [List.length_append]; have := enc_le (un s k); omega
     have h2 : decide (((un s k : Nat) : Int) < 55296) = true ∨ (decide (((un s k : Nat) : Int) < 55296) = false ∧ decide ((57344 : Int) ≤ ((un s k : Nat) : Int)) = true) := by
      simp [hiB, loB] at h1; simp; omega
     have hr := fun W h hb => writeRune_any w.heap.size acc (un s k) (by omega) (by omega) W h (by omega) hb
     have hlt' : (k : Int) < (ln s : Int) := by omega
     clear hA HA h1 hp hu hbl2 c3
     have hw := Lib.hid (show wrap32 ((un s k : Nat) : Int) = ((un s k : Nat) : Int) by have := un_lt s k; unfold wrap32; omega)
     rcases h2 with h2 | ⟨h2, h3⟩
     all_goals
      go_wp2_with fail
      refine (c1 _).mono ?_
      rintro e w' ⟨rfl, rfl⟩
      go_wp2_with fail
      refine (c2 _).mono ?_
      rintro e w' ⟨rfl, n, rfl⟩
      go_wp2_with fail
      rw [hw.out]
      refine (hr _ (bld_drewN hI n) (by have := hbw.size; simpa using this)).mono ?_
      rintro e w3 ⟨rfl, hI3, hb3⟩
      go_wp2
      go_roundw
      case rel => exact ⟨k + 1, f, acc ++ Lib.encodeRune (un s k), by go_num, by omega, hI3, (below_drewN' hbw n).trans hb3, HG.out, by omega, hlen⟩
      case measure => simp [intOf]; omega
    ·have hA : oneU (un s k) = esc (un s k) := by unfold oneU; rw [h1]; rfl
     have HG := Lib.hid (show (acc ++ esc (un s k)) ++ encF s f (k + 1) = encS s by rw [← HA.out, encF_one s f k hlt hp, hA, List.append_assoc])
     have hlen : (acc ++ esc (un s k)).length ≤ 6 * (k + 1) := by rw [List.length_append]; simp [esc]; omega
     have h23 : decide (((un s k : Nat) : Int) < 55296) = false ∧ decide ((57344 : Int) ≤ ((un s k : Nat) : Int)) = false := by
      simp [hiB, loB] at h1; simp; omega
     obtain ⟨h2, h3⟩ := h23
     have hr := fun W h hb => writeEscape_any w.heap.size acc (un s k) (by omega) W h (by omega) hb
     have hlt' : (k : Int) < (ln s : Int) := by omega
     have HP := Lib.hid hp
     clear hA HA h1 hp hu hbl2
     go_wp2_with fail
     refine (c1 _).mono ?_
     rintro e w' ⟨rfl, rfl⟩
     go_wp2_with fail
     refine (c2 _).mono ?_
     rintro e w' ⟨rfl, n, rfl⟩
     go_wp2_with fail
     refine (c3 _).mono ?_
     rw [HP.out]
     rintro e w' ⟨rfl, n2, rfl⟩
     go_wp2_with fail
     refine (hr _ (bld_drewN hI (n + n2)) (by have := hbw.size; simpa using this)).mono ?_
     rintro e w3 ⟨rfl, hI3, hb3⟩
     go_wp2
     go_roundw
     case rel => exact ⟨k + 1, f, acc ++ esc (un s k), by go_num, by omega, hI3, (below_drewN' hbw (n + n2)).trans hb3, HG.out, by omega, hlen⟩
     case measure => simp [intOf]; omega
   ·have hpp := prB_parts s k hp
    have hlt' : (k : Int) < (ln s : Int) := by omega
    have c4 : ∀ W, Cp 85 #[.string s, .int .i64 ((k : Int) + 1)] W fun e w' => e = .returned (.int .u16 (un s (k + 1))) ∧ ∃ n, w' = W.drewN n := fun W => by
     rw [show ((k : Int) + 1) = ((k + 1 : Nat) : Int) by omega]; exact at_any s (k + 1) W hpp.1 H63.out
    have h2 : decide (((un s k : Nat) : Int) < 55296) = false := by simp; omega
    have h3 : decide ((57344 : Int) ≤ ((un s k : Nat) : Int)) = false := by simp; omega
    have hP := Lib.hid (show ((prP s k : Nat) : Int) = 65536 + (((un s k : Nat) : Int) - 55296) * 1024 + (((un s (k + 1) : Nat) : Int) - 56320) by unfold prP; omega)
    have hr := fun W h hb => writeRune_any w.heap.size acc (65536 + (((un s k : Nat) : Int) - 55296) * 1024 + (((un s (k + 1) : Nat) : Int) - 56320)) (by omega) (by omega) W h (by omega) hb
    have HG := Lib.hid (show (acc ++ Lib.encodeRune (prP s k)) ++ encF s f (k + 2) = encS s by rw [← HA.out, encF_pair s f k hlt hp, List.append_assoc])
    have hlen : (acc ++ Lib.encodeRune (prP s k)).length ≤ 6 * (k + 2) := by rw [List.length_append]; have := enc_le (prP s k); omega
    clear HA
    go_wp2_with fail
    refine (c1 _).mono ?_
    rintro e w' ⟨rfl, rfl⟩
    go_wp2_with fail
    refine (c2 _).mono ?_
    rintro e w' ⟨rfl, n, rfl⟩
    go_wp2_with fail
    refine (c3 _).mono ?_
    rw [hp]
    rintro e w' ⟨rfl, n2, rfl⟩
    go_wp2_with fail
    refine (c4 _).mono ?_
    rintro e w' ⟨rfl, n3, rfl⟩
    go_wp2_with fail
    refine (hr _ (bld_drewN hI (n + n2 + n3)) (by have := hbw.size; simpa using this)).mono ?_
    rintro e w3 ⟨rfl, hI3, hb3⟩
    go_wp2
    go_roundw
    case rel => exact ⟨k + 2, f, acc ++ Lib.encodeRune (prP s k), by go_num, by omega, by rw [hP.out]; exact hI3, (below_drewN' hbw (n + n2 + n3)).trans hb3, HG.out, by omega, hlen⟩
    case measure => simp [intOf]; omega
  ·have HZ := Lib.hid (show acc = encS s by rw [← HA.out, encF_end s fuel k hlt, List.append_nil])
   have hS := Tryz.Builder_String_any_k w.heap.size w.heap.size acc wr hI (by omega)
   have hlt' : ¬ ((k : Int) < (ln s : Int)) := by omega
   clear HA
   go_wp2_with (first | (go_at_call 34; refine (c1 _).mono ?_; rintro e w' ⟨rfl, rfl⟩) | (go_at_call 61; refine hS.mono ?_; rintro e w2 ⟨rfl, _, hb2, _⟩))
   go_ret
   rw [← HZ.out]
   exact ⟨rfl, hbw.trans hb2⟩


end
section
open Go.RowKit
theorem results_cell_tmp {fn : Func} {p t : Tmp} {ty : TypeId} (h : fn.results = #[.cell p ty, .tmp t]) (tmps : Array Value) (P : Program) (w : World) (a : Addr) (v : Value) (ha : tmps.getD p undef = .pointer (some a)) (hl : (loadVar ty a).run P w = .ok v w) :
  (results fn tmps).run P w = .ok (.tuple #[v, tmps.getD t undef]) w := by
 simp only [results, h]
 simp [-Array.getD_eq_getD_getElem?, ha, asAddr, hl]
theorem tkS {ops : Array Oper} {rest : List Oper} {o : Oper} {a : Act} {w : World} {Q : Exit → Act → World → Prop} {x y : Operand} (hgd : o.guard = none) (ho : o.op = .store 24 x y) (g : Nat) (kd : Int) (tx : ByteArray) (xx : Nat) (es nl : Bool) (po fi : Int)
  (hx : a.eval x = .pointer (some ⟨g, 0, none⟩)) (hy : a.eval y = .agg #[.int .i64 kd, .string tx, .float .f64 xx, .bool es, .bool nl, .int .i64 po, .int .i64 fi])
  (hg : w.heap[g]? = some (.cells #[.int .i64 0, .string ⟨#[]⟩, .float .f64 0, .bool false, .bool false, .int .i64 0, .int .i64 0] 24 (0, 0)))
  (h : wpList Tryz.prog ops Q rest (a.put o.dst undef) (w.setRow g #[.int .i64 kd, .string tx, .float .f64 xx, .bool es, .bool nl, .int .i64 po, .int .i64 fi])) : wpList Tryz.prog ops Q (o :: rest) a w :=
 wpList_store_row hgd 24 x y ho g _ hx hy 24 _ hg (by kernel_rfl) rfl (by kernel_rfl) h
theorem tkR {fn : Func} {p t : Tmp} {R : Ending → World → Prop} {a : Act} {w : World} {g : Nat} {old c : Array Value} (hr : fn.results = #[.cell p 24, .tmp t]) (ha : a.tmps.getD p undef = .pointer (some ⟨g, 0, none⟩))
  (hG : w.heap[g]? = some (.cells old 24 (0, 0))) (hc : c.size = 7) (hd : a.defers = []) (hR : R (.returned (.tuple #[.agg c, a.tmps.getD t undef])) (w.setRow g c)) : bodyPost Tryz.prog fn R .ret a (w.setRow g c) :=
 bodyPost_ret (results_cell_tmp hr _ _ _ _ _ ha (run_loadVar_row _ g 24 24 _ (0, 0) _ (setRow_heap _ _ _ _ _ _ hG) Tryz.underlying24 rfl (by rw [hc]; kernel_rfl))) hd hR
theorem results_cell_tmp2 {fn : Func} {p t u : Tmp} {ty : TypeId} (h : fn.results = #[.cell p ty, .tmp t, .tmp u]) (tmps : Array Value) (P : Program) (w : World) (a : Addr) (v : Value) (ha : tmps.getD p undef = .pointer (some a)) (hl : (loadVar ty a).run P w = .ok v w) :
  (results fn tmps).run P w = .ok (.tuple #[v, tmps.getD t undef, tmps.getD u undef]) w := by
 simp only [results, h]
 simp [-Array.getD_eq_getD_getElem?, ha, asAddr, hl]
theorem tkR2 {fn : Func} {p t u : Tmp} {R : Ending → World → Prop} {a : Act} {w : World} {g : Nat} {old c : Array Value} (hr : fn.results = #[.cell p 24, .tmp t, .tmp u]) (ha : a.tmps.getD p undef = .pointer (some ⟨g, 0, none⟩))
  (hG : w.heap[g]? = some (.cells old 24 (0, 0))) (hc : c.size = 7) (hd : a.defers = []) (hR : R (.returned (.tuple #[.agg c, a.tmps.getD t undef, a.tmps.getD u undef])) (w.setRow g c)) : bodyPost Tryz.prog fn R .ret a (w.setRow g c) :=
 bodyPost_ret (results_cell_tmp2 hr _ _ _ _ _ ha (run_loadVar_row _ g 24 24 _ (0, 0) _ (setRow_heap _ _ _ _ _ _ hG) Tryz.underlying24 rfl (by rw [hc]; kernel_rfl))) hd hR
theorem below_setRowK {B g : Nat} {a w : World} (h : Below B a w) (hg : B ≤ g) (c : Array Value) : Below B a (w.setRow g c) :=
 ⟨h.os, h.tape, h.output, by rw [setRow_size]; exact h.size, fun k hk => (setRow_other w g k c (by omega)).trans (h.block k hk)⟩
def TokE (o : Option Value) : Ending := match o with
 | none => .returned (.tuple #[tkV 0 ⟨#[]⟩ 0 false false 0 0, .bool false])
 | some v => .returned (.tuple #[v, .bool true])
structure TB (w wr : World) : Prop where
 bl : wr.heap[w.heap.size]? = some (.cells #[.int .i64 0, .string ⟨#[]⟩, .float .f64 0, .bool false, .bool false, .int .i64 0, .int .i64 0] 24 (0, 0))
 bw : Below w.heap.size w wr
 sz : w.heap.size + 1 ≤ wr.heap.size
theorem TB.start (w : World) : TB w (w.alloc (.cells #[.int .i64 0, .string ⟨#[]⟩, .float .f64 0, .bool false, .bool false, .int .i64 0, .int .i64 0] 24)) :=
 ⟨heap_alloc_last w _, (Below.refl _ _).alloc (Nat.le_refl _) _, by simp⟩
theorem TB.step {w w1 w2 : World} (h : TB w w1) (hb : Below w1.heap.size w1 w2) : TB w w2 :=
 ⟨(hb.block _ (by have := h.sz; omega)).trans h.bl, below_le h.bw hb, Nat.le_trans h.sz hb.size⟩
theorem TB.base {w w1 w2 : World} (h : TB w w1) (hb : Below (w.heap.size + 1) w1 w2) : TB w w2 :=
 ⟨(hb.block _ (by omega)).trans h.bl, h.bw.trans (hb.mono (by omega)), Nat.le_trans h.sz hb.size⟩
theorem TB.draw {w w1 : World} (h : TB w w1) (n : Nat) : TB w (w1.drewN n) := h.step (below_drewN' (Below.refl _ _) n)
theorem esc_short {l v : List Nat} {n : Nat} (h : escL l = some (v, n)) : v.length ≤ 1 := by
 cases l with
 | nil => cases h
 | cons c r =>
  rw [escL] at h
  split at h
  ·cases hx : hexA 0 2 r with
   | none => rw [hx] at h; cases h
   | some x => rw [hx] at h; cases h; simp
  ·split at h
   ·cases hx : hexA 0 4 r with
    | none => rw [hx] at h; cases h
    | some x => rw [hx] at h; cases h; simp
   ·split at h
    ·cases h; simp
    ·split at h
     ·split at h
      ·cases h
      ·cases h; simp
     ·split at h
      ·cases h
      ·cases h; simp
def quoV (k : Nat) (o : Option (List Nat × Nat)) : Option Value := o.map fun p => tkV 6 ⟨(bL p.1).toArray⟩ 0 false false 0 (k + 1 + p.2)
def quoR (q k j : Nat) (l : List Nat) (s : ByteArray) : Option (List Nat × Nat) := (strL q ((us s).drop j)).map fun p => (l ++ p.1, j - (k + 1) + p.2)
theorem xquoted_q (s : ByteArray) (k q : Nat) (w : World) (hs : s.size ≤ 35184372088832) (hk : k < ln s) (hq : hd0 ((us s).drop k) = q) :
  Cp 69 #[.string s, .int .i64 k] w fun e w' => e = TokE (quoV k (strL (hd0 ((us s).drop k)) ((us s).drop (k + 1)))) ∧ Below w.heap.size w w' := by
 have hs63 : s.size ≤ maxLen := by unfold maxLen; omega
 obtain ⟨i0, hi, hz0, hz1, hz2⟩ := info_parts info_u16
 have hln := ln_le s
 have C0 := Lib.hid (fun W => xunit_any s k W hs63)
 have C1 := Lib.hid (fun (j : Nat) W => unitT_any s j W hs63)
 have CE := Lib.hid (fun (c : Nat) W => ends_n c W)
 have CX := Lib.hid (fun (B : Nat) (l : List Nat) (v : Value) (j : Nat) (hj : j ≤ ln s) W (H : Own16 B l v W) hB hl => xescape_any B l v s j W (by omega) hj H hB hl)
 obtain ⟨R, hR⟩ : ∃ R, strL q ((us s).drop (k + 1)) = R := ⟨_, rfl⟩
 rw [hq] at C0 ⊢
 rw [hR]
 have HR := Lib.hid (show quoR q k (k + 1) [] s = R by unfold quoR; rw [hR]; cases R with | none => rfl | some p => simp)
 have T0 := Lib.hid (TB.start w)
 have hkl : (k : Int) < 140737488355328 := by omega
 have HL := Lib.hid (show ln s ≤ 17592186044416 by omega)
 have HS := Lib.hid hs
 clear hs hs63 hq hR hln
 go_enter Tryz.func69, Tryz.ntmps69
 go_wp2_with fail
 refine (C0.out _).mono ?_
 rintro e w' ⟨rfl, n0, rfl⟩
 have T1 := Lib.hid (T0.out.draw n0)
 go_wp2
 go_loopw [1, 7] (fun av lv wr => ∃ (j : Nat) (l : List Nat) (v : Value), av = .int .i64 j ∧ lv = v ∧ j ≤ ln s ∧ k + 1 ≤ j ∧ Hid (l.length ≤ j ∧ (∀ u ∈ l, u < 65536) ∧ quoR q k j l s = R ∧ TB w wr ∧ Own16 (w.heap.size + 1) l v wr)) (fun av _ _ => ln s - (intOf av).toNat)
 case atStart => exact ⟨k + 1, [], _, by go_num, rfl, by omega, by omega, Lib.hid ⟨by simp, by simp, HR.out, T1.out, Own16.nil _ _⟩⟩
 case round =>
  obtain ⟨j, l, v, rfl, hv, hj, hkj, HJ⟩ := hrel
  obtain rfl := hv.symm
  clear hkl
  obtain ⟨h1, h2, h3, T, H⟩ := HJ.out
  have H2 := Lib.hid h2
  have hlj : l.length ≤ ln s := by omega
  have hsl : ln s ≤ 17592186044416 := HL.out
  have HJ1 := Lib.hid h1
  have HJ3 := Lib.hid hj
  have HJ4 := Lib.hid hkj
  have HJ5 := Lib.hid hlj
  have HJ6 := Lib.hid hsl
  have hjl : (j : Int) ≤ 17592186044416 := by omega
  clear HJ h2 h1 hj hkj hlj hsl
  rcases Nat.lt_or_ge j (ln s) with hlt | hge
  ·obtain ⟨c, hd1, hd2⟩ := drop_step (L := us s) (k := j) (by rw [us_length]; exact hlt)
   have HC : Hid (c < 65536) := Lib.hid (us_lt s c (List.mem_of_mem_drop (by rw [hd1]; simp)))
   have HLT := Lib.hid hlt
   clear hlt
   have C2 := C1.out j
   rw [hd2, hd1] at C2
   have C2 := Lib.hid (show ∀ W, Cp 66 #[.string s, .int .i64 j] W fun e w' => e = .returned (.tuple #[.int .u16 (c : Nat), .bool true]) ∧ ∃ n, w' = W.drewN n from C2)
   have C3 := Lib.hid (CE.out c)
   have h4 : R = (strL q (c :: (us s).drop (j + 1))).map fun p => (l ++ p.1, j - (k + 1) + p.2) := by
    rw [← h3]
    unfold quoR
    rw [hd1]
   rw [str_cons] at h4
   clear hd1 hd2 h3
   cases he : enN c
   ·rw [he] at C3 h4
    rw [if_neg (by simp)] at h4
    clear he
    by_cases hcq : c = q
    ·subst hcq
     rw [if_pos rfl] at h4
     obtain ⟨m, hm⟩ : ∃ m, j - (k + 1) + 1 = m := ⟨_, rfl⟩
     have hm2 : k + 1 + m = j + 1 := by have := HJ4.out; omega
     have h5 : R = some (l, m) := by rw [h4, ← hm]; simp
     subst h5
     clear h4 hm HR CX
     have CM := Lib.hid (fun W (HO : Own16 (w.heap.size + 1) l v W) => make_own HO H2.out (by have := HJ5.out; have := HJ6.out; omega))
     have HM := Lib.hid hm2
     clear hm2
     go_wp2_with fail
     refine (C2.out _).mono ?_
     rintro e w' ⟨rfl, n1, rfl⟩
     go_wp2_with fail
     refine (C3.out _).mono ?_
     rintro e w' ⟨rfl, rfl⟩
     go_wp2_with fail
     refine (CM.out _ (show Own16 (w.heap.size + 1) l v (wr.drewN n1) from H)).mono ?_
     rintro e w1 ⟨rfl, b1⟩
     have T2 := (T.draw n1).step b1
     have HG := Lib.hid T2.bl
     have HB := Lib.hid T2.bw
     clear T T2 b1 H
     go_wp2_with (refine tkS rfl rfl w.heap.size 6 ⟨(bL l).toArray⟩ 0 false false 0 ((j : Int) + 1) rfl rfl HG.out ?_)
     refine tkR rfl rfl HG.out rfl rfl ⟨?_, below_setRowK HB.out (Nat.le_refl _) _⟩
     have := HM.out
     simp [TokE, quoV, tkV]
     omega
    ·rw [if_neg hcq] at h4
     have g1 : ¬ ((c : Int) = q) := by omega
     by_cases h92 : c = 92
     ·subst h92
      rw [if_pos rfl] at h4
      have C4 := CX.out (w.heap.size + 1) l v (j + 1) HLT.out
      cases hE : escL ((us s).drop (j + 1)) with
      | none =>
       rw [hE] at C4 h4
       obtain rfl : R = none := h4
       clear hE
       have C4 := Lib.hid (show ∀ W, Own16 (w.heap.size + 1) l v W → w.heap.size + 1 ≤ W.heap.size → Cp 106 #[v, .string s, .int .i64 ((j : Int) + 1)] W fun e w' => ∃ v' a, e = .returned (.tuple #[v', .int .i64 a, .bool false]) ∧ Below (w.heap.size + 1) W w' from fun W h1 h2 => (C4 W h1 h2 (by have := HJ5.out; have := HJ6.out; omega)).mono fun e w' ⟨⟨v', a, he⟩, hb⟩ => ⟨v', a, he, hb⟩)
       clear HR CX
       go_wp2_with fail
       refine (C2.out _).mono ?_
       rintro e w' ⟨rfl, n1, rfl⟩
       go_wp2_with fail
       refine (C3.out _).mono ?_
       rintro e w' ⟨rfl, rfl⟩
       go_wp2_with fail
       refine (C4.out _ (show Own16 (w.heap.size + 1) l v (wr.drewN n1) from H) (T.draw n1).sz).mono ?_
       rintro e w1 ⟨v', a, rfl, b1⟩
       have T2 := (T.draw n1).base b1
       have HG := Lib.hid T2.bl
       have HB := Lib.hid T2.bw
       clear T T2 b1 H
       go_wp2_with (refine tkS rfl rfl w.heap.size 0 ⟨#[]⟩ 0 false false 0 0 rfl rfl HG.out ?_)
       refine tkR rfl rfl HG.out rfl rfl ⟨?_, below_setRowK HB.out (Nat.le_refl _) _⟩
       rfl
      | some p =>
       obtain ⟨u, m⟩ := p
       have hm := esc_len hE
       rw [List.length_drop, us_length] at hm
       have hu := esc_lt (fun x hx => us_lt s x (List.mem_of_mem_drop hx)) hE
       have hu1 := esc_short hE
       rw [hE] at C4 h4
       obtain ⟨j2, hj2⟩ : ∃ j2, j + 1 + m = j2 := ⟨_, rfl⟩
       have C4 := Lib.hid (show ∀ W, Own16 (w.heap.size + 1) l v W → w.heap.size + 1 ≤ W.heap.size → Cp 106 #[v, .string s, .int .i64 ((j : Int) + 1)] W fun e w' => ∃ v', e = .returned (.tuple #[v', .int .i64 (j2 : Nat), .bool true]) ∧ Own16 (w.heap.size + 1) (l ++ u) v' w' ∧ Below (w.heap.size + 1) W w' from fun W h1 h2 => (C4 W h1 h2 (by have := HJ5.out; have := HJ6.out; omega)).mono fun e w' ⟨⟨v', he, ho⟩, hb⟩ => ⟨v', by rw [he, ← hj2], ho, hb⟩)
       have HN : Hid (quoR q k j2 (l ++ u) s = R) := Lib.hid (by
        rw [h4]
        simp only [quoR]
        rw [List.drop_drop, hj2]
        cases strL q ((us s).drop j2) with
        | none => rfl
        | some p => simp; have := HJ4.out; omega)
       have HU : Hid ((l ++ u).length ≤ j2 ∧ ∀ x ∈ l ++ u, x < 65536) := Lib.hid ⟨by rw [List.length_append]; have := HJ1.out; omega, fun x hx => by
        rcases List.mem_append.1 hx with h | h
        ·exact H2.out x h
        ·exact hu x h⟩
       have hj3 : j2 ≤ ln s := by have := HLT.out; omega
       have hj4 : k + 1 ≤ j2 := by have := HJ4.out; omega
       have hj5 : j < j2 := by omega
       have HJ7 := Lib.hid hj3
       have HJ8 := Lib.hid hj4
       have HJ9 := Lib.hid hj5
       clear hE h4 hu hu1 hm hj2 HR CX hj3 hj4 hj5
       go_wp2_with fail
       refine (C2.out _).mono ?_
       rintro e w' ⟨rfl, n1, rfl⟩
       go_wp2_with fail
       refine (C3.out _).mono ?_
       rintro e w' ⟨rfl, rfl⟩
       go_wp2_with fail
       refine (C4.out _ (show Own16 (w.heap.size + 1) l v (wr.drewN n1) from H) (T.draw n1).sz).mono ?_
       rintro e w1 ⟨v', rfl, o1, b1⟩
       have T2 := (T.draw n1).base b1
       have HJ2 : Hid ((l ++ u).length ≤ j2 ∧ (∀ x ∈ l ++ u, x < 65536) ∧ quoR q k j2 (l ++ u) s = R ∧ TB w w1 ∧ Own16 (w.heap.size + 1) (l ++ u) v' w1) := Lib.hid ⟨HU.out.1, HU.out.2, HN.out, T2, o1⟩
       clear T T2 b1 H o1
       go_wp2
       go_roundw
       case rel => exact ⟨j2, l ++ u, v', rfl, rfl, HJ7.out, HJ8.out, HJ2⟩
       case measure => have := HLT.out; have := HJ9.out; simp [intOf]; omega
     ·rw [if_neg h92] at h4
      have g2 : ¬ ((c : Int) = 92) := by omega
      have HN : Hid (quoR q k (j + 1) (l ++ [c]) s = R) := Lib.hid (by
       rw [h4]
       unfold quoR
       cases strL q ((us s).drop (j + 1)) with
       | none => rfl
       | some p => simp; have := HJ4.out; omega)
      have HU : Hid ((l ++ [c]).length ≤ j + 1 ∧ ∀ x ∈ l ++ [c], x < 65536) := Lib.hid ⟨by rw [List.length_append, List.length_singleton]; have := HJ1.out; omega, fun x hx => by
       rcases List.mem_append.1 hx with h | h
       ·exact H2.out x h
       ·have := HC.out; simp at h; omega⟩
      clear h4 hcq h92 HR CX
      have hlj : l.length ≤ 17592186044416 := by have := HJ5.out; have := HJ6.out; omega
      go_wp2_with fail
      refine (C2.out _).mono ?_
      rintro e w' ⟨rfl, n1, rfl⟩
      go_wp2_with fail
      refine (C3.out _).mono ?_
      rintro e w' ⟨rfl, rfl⟩
      have hTs := T.sz
      go_wp2_with (at_builtin; refine wpList_append_own _ rfl _ _ 57 rfl (w.heap.size + 1) 52 i0 (.int .u16 0) 1 2 Tryz.underlying57 hi hz0 hz1 hz2 rfl (by decide) _ _ _ rfl (World.ownsRow.alloc (w := (wr.drewN (n1))) H _) ⟨(wr.drewN (n1)).heap.size, 0, none⟩ 1 1 [.int .u16 (c : Nat)] rfl rfl ?c1 ?c2 ?c3 ?c4 ?c5 ?_)
      case c1 => exact (cell_one_new _ _ _)
      case c2 => simp [Value.oneCell']
      case c3 => unfold maxLen; omega
      case c4 => omega
      case c5 => simp; omega
      intro v' w1 hown hg _
      have hbw : Below (w.heap.size + 1) wr w1 := ((below_drewN' (Below.refl _ wr) n1).alloc (by simpa using T.sz) _).grown hg (by have := T.sz; simp; omega) (fun j hj => (World.ownsRow.lt H j hj).1)
      have T2 := T.base hbw
      have HJ2 : Hid ((l ++ [c]).length ≤ j + 1 ∧ (∀ x ∈ l ++ [c], x < 65536) ∧ quoR q k (j + 1) (l ++ [c]) s = R ∧ TB w w1 ∧ Own16 (w.heap.size + 1) (l ++ [c]) v' w1) := Lib.hid ⟨HU.out.1, HU.out.2, HN.out, T2, by simpa [Own16] using hown⟩
      clear T T2 hbw hown hg H
      go_wp2
      go_roundw
      case rel => exact ⟨j + 1, l ++ [c], v', by go_num, rfl, HLT.out, by have := HJ4.out; omega, HJ2⟩
      case measure => have := HLT.out; simp [intOf]; omega
   ·rw [he] at C3 h4
    rw [if_pos rfl] at h4
    obtain rfl : R = none := h4
    clear he HR CX
    go_wp2_with fail
    refine (C2.out _).mono ?_
    rintro e w' ⟨rfl, n1, rfl⟩
    go_wp2_with fail
    refine (C3.out _).mono ?_
    rintro e w' ⟨rfl, rfl⟩
    have T2 := T.draw n1
    have HG := Lib.hid T2.bl
    have HB := Lib.hid T2.bw
    clear T T2 H
    go_wp2_with (refine tkS rfl rfl w.heap.size 0 ⟨#[]⟩ 0 false false 0 0 rfl rfl HG.out ?_)
    refine tkR rfl rfl HG.out rfl rfl ⟨?_, below_setRowK HB.out (Nat.le_refl _) _⟩
    rfl
  ·have hd : (us s).drop j = [] := List.drop_eq_nil_iff.2 (by rw [us_length]; exact hge)
   have C2 := C1.out j
   rw [hd] at C2
   have C2 := Lib.hid (show ∀ W, Cp 66 #[.string s, .int .i64 j] W fun e w' => e = .returned (.tuple #[.int .u16 0, .bool false]) ∧ ∃ n, w' = W.drewN n from C2)
   obtain rfl : R = none := by rw [← h3]; unfold quoR; rw [hd]; rfl
   clear hd h3 HR CX
   go_wp2_with fail
   refine (C2.out _).mono ?_
   rintro e w' ⟨rfl, n1, rfl⟩
   have T2 := T.draw n1
   have HG := Lib.hid T2.bl
   have HB := Lib.hid T2.bw
   clear T T2 H
   go_wp2_with (refine tkS rfl rfl w.heap.size 0 ⟨#[]⟩ 0 false false 0 0 rfl rfl HG.out ?_)
   refine tkR rfl rfl HG.out rfl rfl ⟨?_, below_setRowK HB.out (Nat.le_refl _) _⟩
   rfl
theorem xquoted_any (s : ByteArray) (k : Nat) (w : World) (hs : s.size ≤ 35184372088832) (hk : k < ln s) (_h34 : hd0 ((us s).drop k) = 34 ∨ hd0 ((us s).drop k) = 39) :
  Cp 69 #[.string s, .int .i64 k] w fun e w' => e = TokE (quoV k (strL (hd0 ((us s).drop k)) ((us s).drop (k + 1)))) ∧ Below w.heap.size w w' := by
 exact xquoted_q s k _ w hs hk rfl

end
section
theorem bl_lt (s : ByteArray) : ∀ c ∈ bl s, c < 256 := by
 intro c hc
 unfold bl at hc
 obtain ⟨b, _, rfl⟩ := List.mem_map.1 hc
 exact b.toNat_lt
theorem bl_mk (X : List UInt8) : bl ⟨X.toArray⟩ = X.map UInt8.toNat := by unfold bl; simp
theorem str_eq {X : List UInt8} {L : List Nat} (h : X.map UInt8.toNat = L) : (⟨X.toArray⟩ : ByteArray) = strOf L := by
 refine bl_inj ?_
 rw [bl_mk, h, bl_strOf]
 intro u hu
 rw [← h] at hu
 obtain ⟨b, _, rfl⟩ := List.mem_map.1 hu
 exact b.toNat_lt
theorem strOf_bl (s : ByteArray) : strOf (bl s) = s := bl_inj (bl_strOf (bl_lt s))
theorem bl_data (s : ByteArray) : s.data.toList.map UInt8.toNat = bl s := rfl
theorem strOf_size (l : List Nat) : (strOf l).size = l.length := by
 unfold strOf
 show (Array.size _) = _
 simp
theorem bl_size (s : ByteArray) : (bl s).length = s.size := bl_len s
theorem strOf_nil : strOf [] = ByteArray.empty := rfl
theorem drop_map' {p : UInt8 → Bool} {q : Nat → Bool} (h : ∀ b : UInt8, p b = q b.toNat) : ∀ l : List UInt8, (l.dropWhile p).map UInt8.toNat = (l.map UInt8.toNat).dropWhile q := by
 intro l
 rw [List.dropWhile_map]
 congr 1
 congr 1
 funext b
 exact h b
theorem hp_one (s : ByteArray) (k : UInt8) : Lib.hasPrefix s.data.toList [k] = ((bl s).head? == some k.toNat) := by
 unfold Lib.hasPrefix bl
 cases s.data.toList with
 | nil => rfl
 | cons c r =>
  show (k == c && true) = (some c.toNat == some k.toNat)
  rw [Bool.eq_iff_iff]
  simp only [Bool.and_true, beq_iff_eq, Option.some.injEq]
  exact ⟨fun e => by rw [e], fun e => (UInt8.toNat_inj.1 e).symm⟩
theorem tp_one (s : ByteArray) (k : UInt8) : (⟨(Lib.trimPrefix s.data.toList [k]).toArray⟩ : ByteArray) = strOf (if (bl s).head? = some k.toNat then (bl s).tail else bl s) := by
 refine str_eq ?_
 unfold Lib.trimPrefix
 rw [hp_one]
 by_cases h : (bl s).head? = some k.toNat
 ·rw [if_pos h, beq_iff_eq.2 h, if_pos rfl, List.map_drop, bl_data]
  exact List.drop_one
 ·rw [if_neg h, beq_eq_false_iff_ne.2 h, if_neg (by simp), bl_data]
theorem isp_map : ∀ (p l : List UInt8), p.isPrefixOf l = (p.map UInt8.toNat).isPrefixOf (l.map UInt8.toNat)
 | [], l => by cases l <;> rfl
 | c :: p, [] => rfl
 | c :: p, d :: l => by
  show (c == d && p.isPrefixOf l) = (c.toNat == d.toNat && (p.map UInt8.toNat).isPrefixOf (l.map UInt8.toNat))
  rw [isp_map p l]
  congr 1
  rw [Bool.eq_iff_iff, beq_iff_eq, beq_iff_eq]
  exact ⟨fun e => by rw [e], fun e => UInt8.toNat_inj.1 e⟩
theorem hp_any (s p : ByteArray) : Lib.hasPrefix s.data.toList p.data.toList = (bl p).isPrefixOf (bl s) := isp_map _ _
theorem tp_any (s p : ByteArray) : (⟨(Lib.trimPrefix s.data.toList p.data.toList).toArray⟩ : ByteArray) = strOf (if (bl p).isPrefixOf (bl s) = true then (bl s).drop p.size else bl s) := by
 refine str_eq ?_
 unfold Lib.trimPrefix
 rw [hp_any]
 by_cases h : (bl p).isPrefixOf (bl s) = true
 ·rw [if_pos h, if_pos h, List.map_drop, bl_data, ← Lib.size_eq]
 ·rw [if_neg h, if_neg h, bl_data]
def lowS (r : Nat) : ByteArray := (⟨#[48, 49, 50, 51, 52, 53, 54, 55, 56, 57, 97, 98, 99, 100, 101, 102, 103, 104, 105, 106, 107, 108, 109, 110, 111, 112, 113, 114, 115, 116, 117, 118, 119, 120, 121, 122]⟩ : ByteArray).extract 0 r
def ldq (r : Nat) (c : Nat) : Bool := decide (dgt c < r) && !(decide (65 ≤ c) && decide (c ≤ 90))
theorem low_has : ∀ (r : Fin 37) (b : Fin 256), (lowS r.val).data.toList.contains (UInt8.ofNat b.val) = ldq r.val b.val := by decide +kernel
theorem low_contains {r : Nat} (hr : r ≤ 36) (b : UInt8) : (lowS r).data.toList.contains b = ldq r b.toNat := by
 have := low_has ⟨r, by omega⟩ ⟨b.toNat, b.toNat_lt⟩
 simpa using this
theorem low_ascii : ∀ (r : Fin 37) (j : Fin 37), ∀ b, (lowS r.val).data.toList[j.val]? = some b → b.toNat < 128 := by decide +kernel
theorem low_len : ∀ r : Fin 37, (lowS r.val).data.toList.length = r.val := by decide +kernel
theorem low_small {r : Nat} (hr : r ≤ 36) : (lowS r).size = r := by rw [Lib.size_eq]; exact low_len ⟨r, by omega⟩
theorem low_asc {r : Nat} (hr : r ≤ 36) : ∀ (j : Nat) (b : UInt8), (lowS r).data.toList[j]? = some b → b.toNat < 128 := by
 intro j b hb
 rcases Nat.lt_or_ge j 37 with h | h
 ·exact low_ascii ⟨r, by omega⟩ ⟨j, h⟩ b hb
 ·exfalso
  rw [List.getElem?_eq_none (by rw [low_len ⟨r, by omega⟩]; show r ≤ j; omega)] at hb
  cases hb
theorem ldq_ten (c : Nat) : ldq 10 c = dg10 c := by
 unfold ldq
 rw [Bool.eq_iff_iff, Bool.and_eq_true, decide_eq_true_eq, dgt_lt_ten]
 constructor
 ·exact fun h => h.1
 ·intro h
  refine ⟨h, ?_⟩
  have := dg10_iff.1 h
  simp; omega
theorem tl_low {r : Nat} (hr : r ≤ 36) (s : ByteArray) : (⟨(Lib.trimLeftS s.data.toList (lowS r).data.toList).toArray⟩ : ByteArray) = strOf ((bl s).dropWhile (ldq r)) :=
 str_eq (drop_map' (fun b => low_contains hr b) _)
theorem contains_48 (b : UInt8) : [(48 : UInt8)].contains b = (b.toNat == 48) := by
 rw [Lib.contains_one, Bool.eq_iff_iff, beq_iff_eq, beq_iff_eq]
 exact ⟨fun e => by rw [e]; rfl, fun e => UInt8.toNat_inj.1 e⟩
theorem tl_48 (s : ByteArray) : (⟨(Lib.trimLeftS s.data.toList [48]).toArray⟩ : ByteArray) = strOf (ldz (bl s)) :=
 str_eq (drop_map' (q := (· == 48)) (fun b => contains_48 b) _)
theorem tr_48 (s : ByteArray) : (⟨(Lib.trimRightS s.data.toList [48]).toArray⟩ : ByteArray) = strOf (trz (bl s)) := by
 refine str_eq ?_
 unfold Lib.trimRightS trz
 rw [List.map_reverse, drop_map' (q := (· == 48)) (fun b => contains_48 b), List.map_reverse]
 rfl
def lowC (c : Nat) : Nat := if 65 ≤ c ∧ c ≤ 90 then c + 32 else c
theorem low_byte : ∀ b : Fin 128, (Lib.lowerB (UInt8.ofNat b.val)).toNat = lowC b.val := by decide +kernel
theorem lower_eq {s : ByteArray} (h : ∀ c ∈ bl s, c < 128) : (⟨(Lib.toLowerA s.data.toList).toArray⟩ : ByteArray) = strOf ((bl s).map lowC) := by
 refine str_eq ?_
 unfold Lib.toLowerA bl
 rw [List.map_map, List.map_map]
 refine List.map_congr_left (fun b hb => ?_)
 have h1 : b.toNat < 128 := h b.toNat (List.mem_map.2 ⟨b, hb, rfl⟩)
 have := low_byte ⟨b.toNat, h1⟩
 simpa using this
theorem asc_of {s : ByteArray} (h : ∀ c ∈ bl s, c < 128) : ∀ (j : Nat) (b : UInt8), s.data.toList[j]? = some b → b.toNat < 128 := fun _ b hb => h b.toNat (List.mem_map.2 ⟨b, List.mem_of_getElem? hb, rfl⟩)
theorem dgt_low (c : Nat) : dgt (lowC c) = dgt c := by
 unfold dgt lowC
 split <;> (repeat' split) <;> omega
theorem ldq_low (r c : Nat) : ldq r (lowC c) = decide (dgt c < r) := by
 unfold ldq
 rw [dgt_low]
 have : (decide (65 ≤ lowC c) && decide (lowC c ≤ 90)) = false := by unfold lowC; split <;> simp <;> omega
 rw [this]
 simp
theorem num_low (r : Nat) : ∀ l : List Nat, num r (l.map lowC) = num r l
 | [] => rfl
 | c :: l => by rw [List.map_cons, num_cons, num_cons, dgt_low, num_low r l, List.length_map]
theorem take_low (r : Nat) (l : List Nat) : (l.map lowC).takeWhile (ldq r) = (l.takeWhile (fun c => decide (dgt c < r))).map lowC := by
 rw [List.takeWhile_map]
 congr 1
 congr 1
 funext c
 exact ldq_low r c
theorem drop_low (r : Nat) (l : List Nat) : (l.map lowC).dropWhile (ldq r) = (l.dropWhile (fun c => decide (dgt c < r))).map lowC := by
 rw [List.dropWhile_map]
 congr 1
 congr 1
 funext c
 exact ldq_low r c
theorem ext_take (s : ByteArray) (k : Nat) : s.extract 0 k = strOf ((bl s).take k) := by
 refine bl_inj ?_
 rw [bl_strOf (fun u hu => bl_lt s u (List.mem_of_mem_take hu))]
 unfold bl
 rw [Lib.extract_data, List.drop_zero, Nat.sub_zero, List.map_take]
theorem take_run (p : Nat → Bool) (l : List Nat) : l.take (l.length - (l.dropWhile p).length) = l.takeWhile p := by
 have h := List.takeWhile_append_dropWhile (p := p) (l := l)
 have hl := congrArg List.length h
 rw [List.length_append] at hl
 have h2 : l.length - (l.dropWhile p).length = (l.takeWhile p).length := by omega
 rw [h2]
 have h3 : (l.takeWhile p ++ l.dropWhile p).take (l.takeWhile p).length = l.takeWhile p := List.take_left
 rw [h] at h3
 exact h3
theorem strOf_append (a b : List Nat) : strOf a ++ strOf b = strOf (a ++ b) := by
 unfold strOf
 rw [List.map_append]
 apply ByteArray.ext
 simp


end
section
open Go.RowKit
theorem cut_one (s : ByteArray) (k : UInt8) (w : World) : Cq 257 #[.string s, .string ⟨#[k]⟩] (.tuple #[.string (strOf (if (bl s).head? = some k.toNat then (bl s).tail else bl s)), .bool ((bl s).head? == some k.toNat)]) w := by
 refine (Tryz.strings_CutPrefix s ⟨#[k]⟩ w).mono fun e w' h => ⟨?_, h.2.symm⟩
 rw [h.1]
 have e1 := tp_one s k
 have e2 := hp_one s k
 exact congrArg Ending.returned (by rw [show (⟨#[k]⟩ : ByteArray).data.toList = [k] from rfl, e1, e2])
theorem trim_one (s : ByteArray) (k : UInt8) (w : World) : Cq 331 #[.string s, .string ⟨#[k]⟩] (.string (strOf (if (bl s).head? = some k.toNat then (bl s).tail else bl s))) w := by
 refine (Tryz.strings_TrimPrefix s ⟨#[k]⟩ w).mono fun e w' h => ⟨?_, h.2.symm⟩
 rw [h.1]
 have e1 := tp_one s k
 exact congrArg Ending.returned (by rw [show (⟨#[k]⟩ : ByteArray).data.toList = [k] from rfl, e1])
theorem cut_any' (s p : ByteArray) (w : World) : Cq 257 #[.string s, .string p] (.tuple #[.string (strOf (if (bl p).isPrefixOf (bl s) = true then (bl s).drop p.size else bl s)), .bool ((bl p).isPrefixOf (bl s))]) w := by
 refine (Tryz.strings_CutPrefix s p w).mono fun e w' h => ⟨?_, h.2.symm⟩
 rw [h.1, tp_any, hp_any]
def sgF (b : Bool) : Nat := if b = true then 13830554455654793216 else 4607182418800017408
theorem tcutSign_any (s : ByteArray) (w : World) : Cq 287 #[.string s] (.tuple #[.float .f64 (sgF (sgnB (bl s)) : Nat), .string (strOf (unsg (bl s)))]) w := by
 have C1 := Lib.hid (cut_one s 45 w)
 have C2 := Lib.hid (trim_one s 43 w)
 have h1 : ((bl s).head? == some (45 : UInt8).toNat) = sgnB (bl s) := rfl
 rw [h1] at C1
 cases h : sgnB (bl s)
 ·rw [h] at C1
  have e1 : unsg (bl s) = if (bl s).head? = some (43 : UInt8).toNat then (bl s).tail else bl s := by
   have h2 : ¬ (bl s).head? = some 45 := by
    intro e
    unfold sgnB at h
    rw [e] at h
    simp at h
   unfold unsg
   by_cases h3 : (bl s).head? = some 43
   ·rw [if_pos (Or.inr h3)]; exact (if_pos h3).symm
   ·rw [if_neg (by rintro (h4 | h4); exact h2 h4; exact h3 h4)]; exact (if_neg h3).symm
  rw [← e1] at C2
  obtain ⟨t, ht⟩ : ∃ t, strOf (unsg (bl s)) = t := ⟨_, rfl⟩
  rw [ht] at C2 ⊢
  obtain ⟨t1, ht1⟩ : ∃ t1, strOf (if (bl s).head? = some (45 : UInt8).toNat then (bl s).tail else bl s) = t1 := ⟨_, rfl⟩
  rw [ht1] at C1
  clear h h1 e1 ht ht1
  go_enter Tryz.func287, Tryz.ntmps287
  go_wp2_with fail
  refine C1.out.mono ?_
  rintro e w' ⟨rfl, rfl⟩
  go_wp2_with fail
  refine C2.out.mono ?_
  rintro e w' ⟨rfl, rfl⟩
  go_wp2
  go_ret2
  exact ⟨rfl, rfl⟩
 ·rw [h] at C1
  have e1 : unsg (bl s) = if (bl s).head? = some (45 : UInt8).toNat then (bl s).tail else bl s := by
   have h2 : (bl s).head? = some 45 := by
    unfold sgnB at h
    exact beq_iff_eq.1 h
   unfold unsg
   rw [if_pos (Or.inl h2)]
   exact (if_pos h2).symm
  rw [← e1] at C1
  obtain ⟨t, ht⟩ : ∃ t, strOf (unsg (bl s)) = t := ⟨_, rfl⟩
  rw [ht] at C1 ⊢
  clear h h1 e1 ht C2
  go_enter Tryz.func287, Tryz.ntmps287
  go_wp2_with fail
  refine C1.out.mono ?_
  rintro e w' ⟨rfl, rfl⟩
  go_wp2
  go_ret2
  exact ⟨rfl, rfl⟩
theorem two_ahead (a b : Nat) (l : List Nat) : [a, b].isPrefixOf l = (l.head? == some a && l.tail.head? == some b) := by
 cases l with
 | nil => rfl
 | cons c r =>
  cases r with
  | nil =>
   show (a == c && false) = (some c == some a && (none : Option Nat) == some b)
   rw [Bool.eq_iff_iff]; simp
  | cons d q =>
   show (a == c && (b == d && true)) = (some c == some a && some d == some b)
   rw [Bool.eq_iff_iff]
   simp only [Bool.and_true, Bool.and_eq_true, beq_iff_eq, Option.some.injEq]
   exact ⟨fun e => ⟨e.1.symm, e.2.symm⟩, fun e => ⟨e.1.symm, e.2.symm⟩⟩
theorem tcutHex_any (s : ByteArray) (w : World) : Cq 253 #[.string s] (.tuple #[.string (strOf (if hxA (bl s) = true then (bl s).drop 2 else bl s)), .bool (hxA (bl s))]) w := by
 have C1 := Lib.hid (cut_any' s ⟨#[48, 120]⟩ w)
 have C2 := Lib.hid (cut_any' s ⟨#[48, 88]⟩ w)
 have h1 : (bl ⟨#[48, 120]⟩).isPrefixOf (bl s) = ((bl s).head? == some 48 && (bl s).tail.head? == some 120) := two_ahead 48 120 (bl s)
 have h2 : (bl ⟨#[48, 88]⟩).isPrefixOf (bl s) = ((bl s).head? == some 48 && (bl s).tail.head? == some 88) := two_ahead 48 88 (bl s)
 have hx : hxA (bl s) = ((bl ⟨#[48, 120]⟩).isPrefixOf (bl s) || (bl ⟨#[48, 88]⟩).isPrefixOf (bl s)) := by
  rw [h1, h2]; unfold hxA; cases ((bl s).head? == some 48) <;> rfl
 rw [hx]
 clear h1 h2 hx
 obtain ⟨p, hp⟩ : ∃ p, (bl ⟨#[48, 120]⟩).isPrefixOf (bl s) = p := ⟨_, rfl⟩
 obtain ⟨q, hq⟩ : ∃ q, (bl ⟨#[48, 88]⟩).isPrefixOf (bl s) = q := ⟨_, rfl⟩
 rw [hp] at C1
 rw [hq] at C2
 rw [hp, hq]
 rw [show (⟨#[48, 120]⟩ : ByteArray).size = 2 from rfl] at C1
 rw [show (⟨#[48, 88]⟩ : ByteArray).size = 2 from rfl] at C2
 clear hp hq
 cases p
 ·rw [if_neg (by simp)] at C1
  rw [Bool.false_or]
  obtain ⟨t, ht⟩ : ∃ t, strOf (if q = true then (bl s).drop 2 else bl s) = t := ⟨_, rfl⟩
  rw [ht] at C2 ⊢
  obtain ⟨t1, ht1⟩ : ∃ t1, strOf (bl s) = t1 := ⟨_, rfl⟩
  clear ht ht1
  go_enter Tryz.func253, Tryz.ntmps253
  go_wp2_with fail
  refine C1.out.mono ?_
  rintro e w' ⟨rfl, rfl⟩
  go_wp2_with fail
  refine C2.out.mono ?_
  rintro e w' ⟨rfl, rfl⟩
  go_wp2
  go_ret2
  exact ⟨rfl, rfl⟩
 ·rw [if_pos rfl] at C1
  rw [Bool.true_or, if_pos rfl]
  obtain ⟨t, ht⟩ : ∃ t, strOf ((bl s).drop 2) = t := ⟨_, rfl⟩
  rw [ht] at C1 ⊢
  clear ht C2
  go_enter Tryz.func253, Tryz.ntmps253
  go_wp2_with fail
  refine C1.out.mono ?_
  rintro e w' ⟨rfl, rfl⟩
  go_wp2
  go_ret2
  exact ⟨rfl, rfl⟩


end
section
open Go.RowKit
theorem low_trim (s : ByteArray) {r : Nat} (hr : r ≤ 36) (w : World) : Ct 259 #[.string s, .string (lowS r)] (.string (strOf ((bl s).dropWhile (ldq r)))) w := by
 have h := Tryz.strings_TrimLeft_laid s (lowS r) w (by rw [low_small hr]; omega) (low_asc hr)
 rw [tl_low hr s] at h
 exact h
theorem drop_len_le (p : Nat → Bool) (l : List Nat) : (l.dropWhile p).length ≤ l.length := (List.dropWhile_sublist p).length_le
theorem tcutDigits_any (s : ByteArray) (r : Nat) (w : World) (hr : r ≤ 36) (hs : s.size ≤ 4611686018427387903) :
  Ct 254 #[.string s, .int .i64 r] (.tuple #[.string (strOf ((bl s).takeWhile (ldq r))), .string (strOf ((bl s).dropWhile (ldq r)))]) w := by
 have C1 := Lib.hid (low_trim s hr w)
 unfold lowS at C1
 have hle := drop_len_le (ldq r) (bl s)
 rw [bl_size] at hle
 have hk := take_run (ldq r) (bl s)
 rw [bl_size] at hk
 have hsz := strOf_size ((bl s).dropWhile (ldq r))
 obtain ⟨t, ht⟩ : ∃ t, strOf ((bl s).dropWhile (ldq r)) = t := ⟨_, rfl⟩
 rw [ht] at C1 hsz ⊢
 obtain ⟨k, hk2⟩ : ∃ k, s.size - t.size = k := ⟨_, rfl⟩
 have HE := Lib.hid (show s.extract 0 k = strOf ((bl s).takeWhile (ldq r)) from by rw [ext_take, ← hk, ← hk2, hsz])
 have h1 : (t.size : Int) ≤ (s.size : Int) := by omega
 have h2 : (s.size : Int) ≤ 4611686018427387903 := by omega
 have h3 : (s.size : Int) - (t.size : Int) = (k : Int) := by omega
 have h4 : (k : Int) ≤ (s.size : Int) := by omega
 have hr1 : (r : Int) ≤ 36 := by omega
 rw [← HE.out]
 clear hle hk hsz ht hk2 hr hs
 go_enter Tryz.func254, Tryz.ntmps254
 go_wp2_with fail
 refine C1.out.mono ?_
 rintro e w' ⟨rfl, hb⟩
 go_wp2
 go_ret2
 exact ⟨rfl, hb⟩
theorem tamount_any (s : ByteArray) (w : World) (hs : s.size ≤ 4611686018427387903) (hd : ∀ c ∈ bl s, dg10 c = true) :
  Cq 288 #[.string s] (.int .i64 (amt (bl s) : Nat)) w := by
 have h2 : (s.size : Int) ≤ 4611686018427387903 := by omega
 have HD := Lib.hid hd
 clear hd hs
 go_enter Tryz.func288, Tryz.ntmps288
 go_wp2
 go_loopw [3, 7] (fun nv i wr => ∃ k : Nat, i = .int .i64 k ∧ k ≤ s.size ∧ nv = .int .i64 (amt ((bl s).take k) : Nat) ∧ w = wr) (fun _ i _ => s.size - (intOf i).toNat)
 case atStart => exact ⟨0, rfl, Nat.zero_le _, rfl, rfl⟩
 case round =>
  obtain ⟨k, rfl, hk, rfl, rfl⟩ := hrel
  by_cases hlt : k < s.size
  ·obtain ⟨B, hB⟩ : ∃ B : Nat, (s[k]'hlt).toNat = B := ⟨_, rfl⟩
   have hget : (bl s)[k]? = some B := by rw [bl_get s k hlt, hB]
   have hdB := dg10_iff.1 (HD.out B (List.mem_of_getElem? hget))
   obtain ⟨N, hN⟩ : ∃ N, amt ((bl s).take k) = N := ⟨_, rfl⟩
   have hNl : N < 10995116277760 := by rw [← hN]; exact amt_lt _ (fun c hc => HD.out c (List.mem_of_mem_take hc))
   have hstep : amt ((bl s).take (k + 1)) = amtS N B := by rw [List.take_add_one, hget, ← hN]; exact amt_snoc _ _
   rw [hN]
   have a1 : (0 : Int) ≤ (k : Int) := by omega
   have a2 : (k : Int) < (s.size : Int) := by omega
   have a3 : ((s[k]'hlt).toNat : Int) = (B : Int) := by rw [hB]
   obtain ⟨D, hD⟩ : ∃ D : Nat, B - 48 = D := ⟨_, rfl⟩
   have a4 : IntKind.u8.wrap ((B : Int) - 48) = (D : Int) := by rw [IntWalk.u8_in _ (by omega)]; omega
   have a5 : IntKind.i64.wrap (D : Int) = (D : Int) := IntWalk.i64_in _ (by omega)
   by_cases hc : N < 1099511627776
   ·obtain ⟨M, hM⟩ : ∃ M : Nat, N * 10 + D = M := ⟨_, rfl⟩
    have HS := Lib.hid (show amt ((bl s).take (k + 1)) = M from by rw [hstep]; unfold amtS; rw [if_pos hc, hD, hM])
    have a6 : IntKind.i64.wrap (10 * (N : Int)) = 10 * (N : Int) := IntWalk.i64_in _ (by omega)
    have a7 : IntKind.i64.wrap (10 * (N : Int) + (D : Int)) = (M : Int) := by rw [IntWalk.i64_in _ (by omega)]; omega
    have t1 : decide ((N : Int) < 1099511627776) = true := decide_eq_true (by omega)
    clear hget hdB hN hNl hstep hB hD hM hc HD hk
    go_wp2
    exact ⟨⟨k + 1, by go_num, by omega, by rw [HS.out], trivial⟩, by simp [intOf]; omega⟩
   ·have HS := Lib.hid (show amt ((bl s).take (k + 1)) = N from by rw [hstep]; unfold amtS; rw [if_neg hc])
    have t1 : decide ((N : Int) < 1099511627776) = false := decide_eq_false (by omega)
    clear hget hdB hN hNl hstep hB hD hc HD hk a3 a4 a5
    go_wp2
    exact ⟨⟨k + 1, by go_num, by omega, by rw [HS.out], trivial⟩, by simp [intOf]; omega⟩
  ·have HZ := Lib.hid (show (bl s).take k = bl s from List.take_of_length_le (by rw [bl_size]; omega))
   go_wp2
   go_ret
   exact ⟨by rw [HZ.out]; rfl, rfl⟩
def sgI (b : Bool) : Int := if b = true then -1 else 1
theorem conv_sg (b : Bool) : ∀ W : World, (convert 22 3 (.float .f64 (sgF b))).run Tryz.prog W = .ok (.int .i64 (sgI b)) W := by
 intro W
 cases b
 ·rfl
 ·rfl
theorem tail_sub {l : List Nat} : ∀ c ∈ l.tail, c ∈ l := fun _ h => List.mem_of_mem_tail h
theorem unsg_sub {l : List Nat} : ∀ c ∈ unsg l, c ∈ l := by
 intro c h
 unfold unsg at h
 split at h
 ·exact tail_sub c h
 ·exact h
theorem run_sub {l : List Nat} : ∀ c ∈ run10 l, c ∈ l := fun _ h => (List.takeWhile_sublist _).subset h
theorem aft_sub {l : List Nat} : ∀ c ∈ aft10 l, c ∈ l := fun _ h => (List.dropWhile_sublist _).subset h
theorem unsg_len (l : List Nat) : (unsg l).length ≤ l.length := by
 unfold unsg
 split
 ·rw [List.length_tail]; omega
 ·omega
theorem ldq_dg : ldq 10 = dg10 := funext ldq_ten
theorem str_ne {l : List Nat} (h : l ≠ []) : ¬ (strOf l).toList = [] ∧ (strOf l).toList.isEmpty = false := by
 have h1 : ¬ (strOf l).toList = [] := by
  rw [Lib.toList_data]
  unfold strOf
  simpa using h
 refine ⟨h1, ?_⟩
 cases hh : (strOf l).toList with
 | nil => exact absurd hh h1
 | cons => rfl
theorem cut_ten (l : List Nat) (w : World) (hl : ∀ c ∈ l, c < 256) (hs : l.length ≤ 4611686018427387903) :
  Ct 254 #[.string (strOf l), .int .i64 10] (.tuple #[.string (strOf (run10 l)), .string (strOf (aft10 l))]) w := by
 have h := tcutDigits_any (strOf l) 10 w (by omega) (by rw [strOf_size]; exact hs)
 rw [bl_strOf hl, ldq_dg] at h
 exact h
theorem expB_no {l : List Nat} (h : ¬ (l.head? = some 101 ∨ l.head? = some 69)) : expB l = false := by
 unfold expB
 have h1 : (l.head? == some 101) = false := beq_eq_false_iff_ne.2 (fun e => h (Or.inl e))
 have h2 : (l.head? == some 69) = false := beq_eq_false_iff_ne.2 (fun e => h (Or.inr e))
 rw [h1, h2]; rfl
theorem expB_is {l : List Nat} (h : l.head? = some 101 ∨ l.head? = some 69) : expB l = !(run10 (unsg l.tail)).isEmpty := by
 unfold expB
 have h1 : (l.head? == some 101 || l.head? == some 69) = true := by
  rcases h with h | h
  ·rw [h]; rfl
  ·rw [h]; rfl
 rw [h1, Bool.true_and]
def ExpQ (l : List Nat) (w : World) (e : Ending) (w' : World) : Prop :=
 e = .returned (.tuple #[.int .i64 (exV l), .string (strOf (if expB l = true then expR l else [])), .bool (expB l)]) ∧ Below w.heap.size w w'
theorem ExpQ.no {l : List Nat} {w w' : World} (h : expB l = false) (hb : Below w.heap.size w w') : ExpQ l w (.returned (.tuple #[.int .i64 0, .string ⟨#[]⟩, .bool false])) w' := by
 refine ⟨?_, hb⟩
 unfold exV
 rw [h, if_neg (by simp), if_neg (by simp)]
 rfl
theorem ExpQ.yes {l : List Nat} {w w' : World} (h : expB l = true) (hb : Below w.heap.size w w') : ExpQ l w (.returned (.tuple #[.int .i64 (expV l), .string (strOf (expR l)), .bool true])) w' := by
 refine ⟨?_, hb⟩
 unfold exV
 rw [h, if_pos rfl, if_pos rfl]
theorem tcutExponent_any (s : ByteArray) (w : World) (hs : s.size ≤ 4611686018427387903) :
  Cp 258 #[.string s] w (ExpQ (bl s) w) := by
 have h2 : (s.size : Int) ≤ 4611686018427387903 := by omega
 by_cases h0 : s.size = 0
 ·have hnil : bl s = [] := List.eq_nil_of_length_eq_zero (by rw [bl_size]; exact h0)
  have hE := ExpQ.no (l := bl s) (expB_no (by rw [hnil]; simp)) (Below.refl w.heap.size w)
  have hz : s = ⟨#[]⟩ := by
   have := strOf_bl s
   rw [hnil] at this
   exact this.symm
  clear hnil
  subst hz
  have HE := Lib.hid hE
  clear hE h0 hs h2
  go_enter Tryz.func258, Tryz.ntmps258
  go_wp2
  refine bodyPost_ret (results_tmp3 rfl _ _ _) rfl ?_
  exact HE.out
 ·have hp : 0 < s.size := by omega
  obtain ⟨B, hB⟩ : ∃ B : Nat, (s[0]'hp).toNat = B := ⟨_, rfl⟩
  have hhd : (bl s).head? = some B := by rw [List.head?_eq_getElem?, bl_get s 0 hp, hB]
  have a2 : (0 : Int) < (s.size : Int) := by omega
  have a3 : ((s[0]'hp).toNat : Int) = (B : Int) := by rw [hB]
  have hne := str_ne (l := bl s) (by intro e; rw [e] at hhd; cases hhd)
  rw [strOf_bl] at hne
  obtain ⟨n1, n2⟩ := hne
  by_cases hc : B = 101 ∨ B = 69
  ·have hx := expB_is (l := bl s) (by rw [hhd]; rcases hc with h | h <;> simp [h])
   have e1 : bl (s.extract 1 s.size) = (bl s).tail := by rw [bl_drop]; exact List.drop_one
   have C1 := Lib.hid (tcutSign_any (s.extract 1 s.size) w)
   rw [e1] at C1
   obtain ⟨U, hU⟩ : ∃ U, unsg (bl s).tail = U := ⟨_, rfl⟩
   rw [hU] at C1 hx
   have hU2 : ∀ c ∈ U, c < 256 := fun c h => bl_lt s c (tail_sub c (unsg_sub c (by rw [hU]; exact h)))
   have hU3 : U.length ≤ 4611686018427387903 := by
    have k1 := unsg_len (bl s).tail
    rw [hU, List.length_tail, bl_size] at k1
    omega
   have C2 := Lib.hid (cut_ten U w hU2 hU3)
   have hR := run10_all U
   have hRl := run_len U
   have hR2 : ∀ c ∈ run10 U, c < 256 := fun c h => hU2 c (run_sub c h)
   have hV : expV (bl s) = if sgnB (bl s).tail = true then -(amt (run10 U) : Int) else (amt (run10 U) : Int) := by unfold expV; rw [hU]
   have hT : expR (bl s) = aft10 U := by unfold expR; rw [hU]
   obtain ⟨b, hb⟩ : ∃ b, sgnB (bl s).tail = b := ⟨_, rfl⟩
   rw [hb] at C1 hV
   obtain ⟨R, hRR⟩ : ∃ R, run10 U = R := ⟨_, rfl⟩
   rw [hRR] at C2 hR hRl hR2 hV hx
   have m1 : ∀ W, Cq 287 #[.string (s.extract 1 s.size)] (.tuple #[.float .f64 (sgF b : Nat), .string (strOf U)]) W := by
    intro W
    have := tcutSign_any (s.extract 1 s.size) W
    rw [e1, hU, hb] at this
    exact this
   by_cases hR0 : R = []
   ·have HE := Lib.hid (fun w' => ExpQ.no (l := bl s) (w := w) (w' := w') (by rw [hx, hR0]; rfl))
    rw [hR0, strOf_nil] at C2
    rw [show ByteArray.empty = (⟨#[]⟩ : ByteArray) from rfl] at C2
    obtain ⟨u, hu⟩ : ∃ u, strOf U = u := ⟨_, rfl⟩
    obtain ⟨v, hv⟩ : ∃ v, strOf (aft10 U) = v := ⟨_, rfl⟩
    rw [hu] at C1 C2
    rw [hv] at C2
    clear hx e1 hU hU2 hU3 hR hRl hR2 hV hT hb hRR hR0 hu hv hhd hB hs m1 h0
    have t1 : ((B : Int) != 101 && (B : Int) != 69) = false := by rcases hc with rfl | rfl <;> rfl
    have t2 : (B = 101 ∧ ((B : Int) != 101) = false) ∨ (((B : Int) != 101) = true ∧ ((B : Int) != 69) = false) := by rcases hc with rfl | rfl <;> simp
    clear hc
    rcases t2 with ⟨_, t2⟩ | ⟨t2, t3⟩
    ·go_enter Tryz.func258, Tryz.ntmps258
     go_wp2_with fail
     refine C1.out.mono ?_
     rintro e w' ⟨rfl, rfl⟩
     go_wp2_with fail
     refine C2.out.mono ?_
     rintro e w' ⟨rfl, hbw⟩
     go_wp2
     refine bodyPost_ret (results_tmp3 rfl _ _ _) rfl ?_
     exact HE.out _ hbw
    ·go_enter Tryz.func258, Tryz.ntmps258
     go_wp2_with fail
     refine C1.out.mono ?_
     rintro e w' ⟨rfl, rfl⟩
     go_wp2_with fail
     refine C2.out.mono ?_
     rintro e w' ⟨rfl, hbw⟩
     go_wp2
     refine bodyPost_ret (results_tmp3 rfl _ _ _) rfl ?_
     exact HE.out _ hbw
   ·have HE := Lib.hid (fun w' => ExpQ.yes (l := bl s) (w := w) (w' := w') (by rw [hx]; cases R with | nil => exact absurd rfl hR0 | cons => rfl))
    obtain ⟨r1, r2⟩ := str_ne hR0
    have C3 := Lib.hid (fun W => tamount_any (strOf R) W (by rw [strOf_size]; omega) (by rw [bl_strOf hR2]; exact hR))
    rw [bl_strOf hR2] at C3
    have hal := amt_lt R hR
    obtain ⟨N, hN⟩ : ∃ N, amt R = N := ⟨_, rfl⟩
    rw [hN] at C3 hal hV
    have K1 := Lib.hid (conv_sg b)
    have a5 : IntKind.i64.wrap (sgI b * (N : Int)) = expV (bl s) := by
     rw [hV]
     cases b
     ·rw [if_neg (by simp), show sgI false = 1 from rfl, IntWalk.i64_in _ (by omega)]; omega
     ·rw [if_pos rfl, show sgI true = -1 from rfl, IntWalk.i64_in _ (by omega)]; omega
    obtain ⟨X, hX⟩ : ∃ X, expV (bl s) = X := ⟨_, rfl⟩
    rw [hX] at HE a5
    rw [hT] at HE
    obtain ⟨u, hu⟩ : ∃ u, strOf U = u := ⟨_, rfl⟩
    obtain ⟨v, hv⟩ : ∃ v, strOf (aft10 U) = v := ⟨_, rfl⟩
    obtain ⟨f, hf⟩ : ∃ f, strOf R = f := ⟨_, rfl⟩
    rw [hu] at C1 C2
    rw [hv] at C2 HE
    rw [hf] at C2 C3 r1 r2
    have K1 := K1.out
    have t2 : (B = 101 ∧ ((B : Int) != 101) = false) ∨ (((B : Int) != 101) = true ∧ ((B : Int) != 69) = false) := by rcases hc with rfl | rfl <;> simp
    clear hx e1 hU hU2 hU3 hR hRl hR2 hV hT hb hRR hR0 hu hv hf hhd hB hs m1 h0 hc hN hal hX
    rcases t2 with ⟨_, t2⟩ | ⟨t2, t3⟩
    ·go_enter Tryz.func258, Tryz.ntmps258
     go_wp2_with fail
     refine C1.out.mono ?_
     rintro e w' ⟨rfl, rfl⟩
     go_wp2_with fail
     refine C2.out.mono ?_
     rintro e w' ⟨rfl, hbw⟩
     go_wp2_with fail
     refine (C3.out _).mono ?_
     rintro e w' ⟨rfl, rfl⟩
     go_wp2
     refine bodyPost_ret (results_tmp3 rfl _ _ _) rfl ?_
     exact HE.out _ hbw
    ·go_enter Tryz.func258, Tryz.ntmps258
     go_wp2_with fail
     refine C1.out.mono ?_
     rintro e w' ⟨rfl, rfl⟩
     go_wp2_with fail
     refine C2.out.mono ?_
     rintro e w' ⟨rfl, hbw⟩
     go_wp2_with fail
     refine (C3.out _).mono ?_
     rintro e w' ⟨rfl, rfl⟩
     go_wp2
     refine bodyPost_ret (results_tmp3 rfl _ _ _) rfl ?_
     exact HE.out _ hbw
  ·have HE := Lib.hid (ExpQ.no (l := bl s) (expB_no (by rw [hhd]; rintro (h | h) <;> exact hc (by simp at h; omega))) (Below.refl w.heap.size w))
   have t1 : ((B : Int) != 101) = true := by rw [bne_iff_ne]; omega
   have t2 : ((B : Int) != 69) = true := by rw [bne_iff_ne]; omega
   clear hhd hB hs hc h0
   go_enter Tryz.func258, Tryz.ntmps258
   go_wp2
   refine bodyPost_ret (results_tmp3 rfl _ _ _) rfl ?_
   exact HE.out


end
end Go.Proofs.YtmimeejjaneedaaGreatDoor
