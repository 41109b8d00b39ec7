/-
  Contracts of the small functions: the NaN that is told, Signbit, Less, Equal, Same, same.
-/
import Derived.Test.YtbinpcoaghpcdaaParts
namespace Go.Proofs.Ytbinpcoaghpcdaa
open Go.RowKit
/-- A float as it is told: each NaN is the one. -/
def cn (x : Nat) : Nat := if fnan x = true then 9221120237041090560 else x
def olt (x y : Nat) : Bool := FloatKind.f64.format.order x y == some .lt
def oeq (x y : Nat) : Bool := FloatKind.f64.format.order x y == some .eq
theorem nan_any (w : World) : Calls Try.prog 82 #[] w fun e w' => e = .returned (.float .f64 9221120237041090560) ∧ w = w' := by
  have h2 : (callFunc 34 #[.int .u64 9221120237041090560]).run Try.prog w = .ok (.value (.float .f64 9221120237041090560)) w := f64from_run 9221120237041090560 w
  go_enter Try.func82, Try.ntmps82
  go_wp2
  go_ret
  exact ⟨rfl, rfl⟩
theorem told_any (x : Nat) (w : World) : Calls Try.prog 67 #[.float .f64 x] w fun e w' => e = .returned (.float .f64 (cn x)) ∧ w = w' := by
  have C1 := Lib.hid (fun W => isNaN_any x W)
  have C2 := Lib.hid (fun W => nan_any W)
  unfold cn
  cases e1 : fnan x
  · rw [e1] at C1
    rw [if_neg (by simp)]
    clear e1
    go_enter Try.func67, Try.ntmps67
    go_wp2_with fail
    refine (C1.out _).mono ?_
    rintro e w' ⟨rfl, rfl⟩
    go_wp2
    go_ret
    exact ⟨rfl, rfl⟩
  · rw [e1] at C1
    rw [if_pos rfl]
    clear e1
    go_enter Try.func67, Try.ntmps67
    go_wp2_with fail
    refine (C1.out _).mono ?_
    rintro e w' ⟨rfl, rfl⟩
    go_wp2_with fail
    refine (C2.out _).mono ?_
    rintro e w' ⟨rfl, rfl⟩
    go_wp2
    go_ret
    exact ⟨rfl, rfl⟩
theorem plain_any (x : Nat) (w : World) : Calls Try.prog 87 #[.float .f64 x] w fun e w' => e = .returned (.float .f64 (cn x)) ∧ w = w' := by
  have C1 := Lib.hid (fun W => isNaN_any x W)
  have h2 : (callFunc 34 #[.int .u64 9221120237041090560]).run Try.prog w = .ok (.value (.float .f64 9221120237041090560)) w := f64from_run 9221120237041090560 w
  unfold cn
  cases e1 : fnan x
  · rw [e1] at C1
    rw [if_neg (by simp)]
    clear e1 h2
    go_enter Try.func87, Try.ntmps87
    go_wp2_with fail
    refine (C1.out _).mono ?_
    rintro e w' ⟨rfl, rfl⟩
    go_wp2
    go_ret
    exact ⟨rfl, rfl⟩
  · rw [e1] at C1
    rw [if_pos rfl]
    clear e1
    go_enter Try.func87, Try.ntmps87
    go_wp2_with fail
    refine (C1.out _).mono ?_
    rintro e w' ⟨rfl, rfl⟩
    go_wp2
    go_ret
    exact ⟨rfl, rfl⟩
theorem finite_any (x : Nat) (w : World) (hx : x < 18446744073709551616) : Calls Try.prog 86 #[.float .f64 x] w fun e w' => e = .returned (.bool (!fnan x && !finf x)) ∧ w = w' := by
  have C1 := Lib.hid (fun W => isNaN_any x W)
  have C2 := Lib.hid (fun W => isInf0_any x W hx)
  cases e1 : fnan x
  · rw [e1] at C1
    clear e1 hx
    go_enter Try.func86, Try.ntmps86
    go_wp2_with fail
    refine (C1.out _).mono ?_
    rintro e w' ⟨rfl, rfl⟩
    go_wp2_with fail
    refine (C2.out _).mono ?_
    rintro e w' ⟨rfl, rfl⟩
    go_wp2
    go_ret
    exact ⟨rfl, rfl⟩
  · rw [e1] at C1
    clear e1 hx
    go_enter Try.func86, Try.ntmps86
    go_wp2_with fail
    refine (C1.out _).mono ?_
    rintro e w' ⟨rfl, rfl⟩
    go_wp2
    go_ret
    exact ⟨rfl, rfl⟩
theorem sign_wrap (x : Nat) (hx : x < 18446744073709551616) : decide (wrap64 (x : Int) < 0) = fneg x := by
  unfold fneg wrap64
  by_cases h : x < 9223372036854775808
  · rw [decide_eq_false (by omega), Nat.div_eq_of_lt h]; rfl
  · rw [decide_eq_true (by omega), show x / 9223372036854775808 = 1 by omega]; rfl
theorem signbit_any (x : Nat) (w : World) (hx : x < 18446744073709551616) : Calls Try.prog 58 #[.float .f64 x] w fun e w' => e = .returned (.bool (fneg x)) ∧ w = w' := by
  have h1 := f64bits_run x w
  have h2 := Lib.hid (sign_wrap x hx)
  clear hx
  go_enter Try.func58, Try.ntmps58
  go_wp2
  go_ret
  exact ⟨by rw [← h2.out]; rfl, rfl⟩
theorem same_any (x : Nat) (w : World) : Calls Try.prog 10 #[.float .f64 x, .float .f64 x] w fun e w' => e = .returned (.bool true) ∧ w = w' := by
  have h1 := f64bits_run x w
  go_enter Try.func10, Try.ntmps10
  go_wp2
  go_ret
  exact ⟨rfl, rfl⟩

end Go.Proofs.Ytbinpcoaghpcdaa
