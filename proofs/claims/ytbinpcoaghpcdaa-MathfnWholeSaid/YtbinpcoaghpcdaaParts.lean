/-
  Contracts of IsNaN, IsInf, Abs, and of the externs of bits.
-/
import Derived.Test.YtbinpcoaghpcdaaFlo
import Derived.Test.YtbinpcoaghpcdaaMem
import Derived.Laws.FloatArith
import Derived.Laws.Externs
namespace Go.Proofs.Ytbinpcoaghpcdaa
open Go.RowKit
/-- Is a word a NaN's? An infinity's? -/
def fnan (x : Nat) : Bool := decide (9218868437227405312 < rung x)
def finf (x : Nat) : Bool := decide (rung x = 9218868437227405312)
theorem ord_self (x : Nat) : (FloatKind.f64.format.order x x != some .eq) = fnan x := by
  unfold fnan
  show (Ieee.double.order x x != some .eq) = _
  by_cases h : 9218868437227405312 < rung x
  · rw [order_nan (.inl h), decide_eq_true h]; rfl
  · rw [order_eq (by omega) (by omega), decide_eq_false h]
    have : compare (frank x) (frank x) = .eq := by simp [compare, compareOfLessAndEq]
    rw [this]; rfl
theorem cmp_lt (a b : Int) : (some (compare a b) == some Ordering.lt) = decide (a < b) := by
  simp only [compare, compareOfLessAndEq]
  by_cases h : a < b
  · simp [h]
  · by_cases h2 : a = b
    · simp [h2]
    · simp [h, h2]
theorem cmp_gt (a b : Int) : (some (compare a b) == some Ordering.gt) = decide (b < a) := by
  simp only [compare, compareOfLessAndEq]
  by_cases h : a < b
  · simp [h]; omega
  · by_cases h2 : a = b
    · simp [h2]
    · simp [h, h2]; omega
theorem cmp_eq (a b : Int) : (some (compare a b) == some Ordering.eq) = decide (a = b) := by
  simp only [compare, compareOfLessAndEq]
  by_cases h : a < b
  · simp [h]; omega
  · by_cases h2 : a = b
    · simp [h2]
    · simp [h, h2]
theorem ord_below (x : Nat) : (FloatKind.f64.format.order x 0 == some .lt) = (!fnan x && (fneg x && decide (0 < rung x))) := by
  show (Ieee.double.order x 0 == some .lt) = _
  unfold fnan
  by_cases h : 9218868437227405312 < rung x
  · rw [order_nan (.inl h), decide_eq_true h]; rfl
  · rw [order_eq (by omega) (by decide), decide_eq_false h, cmp_lt]
    have e : frank 0 = 0 := by decide
    rw [e]
    unfold frank
    cases fneg x <;> simp <;> omega
theorem ord_zero (x : Nat) : (FloatKind.f64.format.order x 0 == some .eq) = decide (rung x = 0) := by
  show (Ieee.double.order x 0 == some .eq) = _
  by_cases h : 9218868437227405312 < rung x
  · rw [order_nan (.inl h)]
    have : ¬ rung x = 0 := by omega
    rw [decide_eq_false this]; rfl
  · rw [order_eq (by omega) (by decide), cmp_eq]
    have e : frank 0 = 0 := by decide
    rw [e]
    unfold frank
    cases fneg x <;> simp
theorem ord_most (x : Nat) : (FloatKind.f64.format.order x 9218868437227405311 == some .gt) = (finf x && !fneg x) := by
  show (Ieee.double.order x 9218868437227405311 == some .gt) = _
  unfold finf
  by_cases h : 9218868437227405312 < rung x
  · rw [order_nan (.inl h)]
    have : ¬ rung x = 9218868437227405312 := by omega
    rw [decide_eq_false this]; rfl
  · rw [order_eq (by omega) (by decide), cmp_gt]
    have e : frank 9218868437227405311 = 9218868437227405311 := by decide
    rw [e]
    unfold frank
    cases fneg x
    · simp; omega
    · simp
theorem isNaN_any (x : Nat) (w : World) : Calls Try.prog 32 #[.float .f64 x] w fun e w' => e = .returned (.bool (fnan x)) ∧ w = w' := by
  have h := ord_self x
  go_enter Try.func32, Try.ntmps32
  go_wp2
  go_ret
  exact ⟨by rw [← h]; rfl, rfl⟩
theorem isInf1_any (x : Nat) (w : World) : Calls Try.prog 44 #[.float .f64 x, .int .i64 1] w fun e w' => e = .returned (.bool (finf x && !fneg x)) ∧ w = w' := by
  have h := ord_most x
  go_enter Try.func44, Try.ntmps44
  go_wp2
  go_ret
  exact ⟨by rw [← h]; rfl, rfl⟩
theorem not_sign (x : Nat) (hx : x < 18446744073709551616) : bits BinOp.andNot IntKind.u64 (x : Int) 9223372036854775808 = ((rung x : Nat) : Int) := by
  show IntKind.u64.wrap ((BitVec.ofInt 64 (x : Int) &&& ~~~ BitVec.ofInt 64 9223372036854775808).toNat : Int) = _
  have e1 : (BitVec.ofInt 64 (x : Int)) = BitVec.ofNat 64 x := by rw [BitVec.ofInt_natCast]
  have e2 : (~~~ BitVec.ofInt 64 9223372036854775808) = BitVec.ofNat 64 (2 ^ 63 - 1) := by decide
  rw [e1, e2, BitVec.toNat_and, BitVec.toNat_ofNat, BitVec.toNat_ofNat, Nat.mod_eq_of_lt (by omega : x < 2 ^ 64), Nat.mod_eq_of_lt (by omega : 2 ^ 63 - 1 < 2 ^ 64), Nat.and_two_pow_sub_one_eq_mod, IntKind.wrap_u64]
  unfold rung
  omega
theorem f64bits_run (x : Nat) (w : World) : (callFunc 35 #[.float .f64 x]).run Try.prog w = .ok (.value (.int .u64 x)) w := by
  rw [run_callFunc_extern (e := Extern.MathFloatBits.float64bits) Try.func35 (by kernel_rfl) (by kernel_rfl) (by kernel_rfl) (by kernel_rfl)]
  rfl
theorem f64from_run (x : Nat) (w : World) : (callFunc 34 #[.int .u64 x]).run Try.prog w = .ok (.value (.float .f64 x)) w := by
  rw [run_callFunc_extern (e := Extern.MathFloatBits.float64frombits) Try.func34 (by kernel_rfl) (by kernel_rfl) (by kernel_rfl) (by kernel_rfl)]
  rfl
theorem abs_any (x : Nat) (w : World) (hx : x < 18446744073709551616) : Calls Try.prog 33 #[.float .f64 x] w fun e w' => e = .returned (.float .f64 (rung x)) ∧ w = w' := by
  have h := not_sign x hx
  have h1 := f64bits_run x w
  have h2 := f64from_run (rung x) w
  clear hx
  go_enter Try.func33, Try.ntmps33
  go_wp2
  go_ret
  exact ⟨by rfl, rfl⟩
theorem rung_rung (x : Nat) : rung (rung x) = rung x ∧ fneg (rung x) = false := by
  unfold rung fneg
  refine ⟨by omega, ?_⟩
  rw [Nat.div_eq_of_lt (Nat.mod_lt _ (by omega))]; rfl
theorem isInf0_any (x : Nat) (w : World) (hx : x < 18446744073709551616) : Calls Try.prog 44 #[.float .f64 x, .int .i64 0] w fun e w' => e = .returned (.bool (finf x)) ∧ w = w' := by
  have h := ord_most (rung x)
  have h2 : (finf (rung x) && !fneg (rung x)) = finf x := by
    unfold finf
    rw [(rung_rung x).1, (rung_rung x).2]; simp
  rw [h2] at h
  have C1 := Lib.hid (fun W => abs_any x W hx)
  clear hx h2
  go_enter Try.func44, Try.ntmps44
  go_wp2_with fail
  refine (C1.out _).mono ?_
  rintro e w' ⟨rfl, rfl⟩
  go_wp2
  go_ret
  exact ⟨by rw [← h]; rfl, rfl⟩
theorem pos_rung {x : Nat} (h : x < 9223372036854775808) : rung x = x ∧ fneg x = false ∧ frank x = (x : Int) := by
  have h1 : rung x = x := Nat.mod_eq_of_lt h
  have h2 : fneg x = false := by unfold fneg; rw [Nat.div_eq_of_lt h]; rfl
  refine ⟨h1, h2, ?_⟩
  unfold frank
  rw [h1, h2]
  rfl
theorem ord_lt {x y : Nat} (hx : x ≤ 9218868437227405312) (hy : y ≤ 9218868437227405312) : (FloatKind.f64.format.order x y == some .lt) = decide (x < y) := by
  show (Ieee.double.order x y == some .lt) = _
  obtain ⟨a1, _, a3⟩ := pos_rung (x := x) (by omega)
  obtain ⟨b1, _, b3⟩ := pos_rung (x := y) (by omega)
  rw [order_eq (by omega) (by omega), cmp_lt, a3, b3]
  simp

end Go.Proofs.Ytbinpcoaghpcdaa
