/-
  Contracts of what is least in mathfn and in the reference: constants, a product; what the walks meet of floats.
-/
import Derived.Test.YtbinpcoaghpcdaaFd
import Derived.Test.YtbinpcoaghpcdaaArgs
import Derived.Test.YtbinpcoaghpcdaaLawR
import Derived.Test.YtbinpcoaghpcdaaU32
namespace Go.Proofs.Ytbinpcoaghpcdaa
open Go.RowKit
theorem wMul {x y r : Nat} (h : Ieee.double.mul x y = some r) : ∀ W : World, (binOp .mul 22 (.float .f64 x) (.float .f64 y)).run Try.prog W = .ok (.float .f64 r) W := fun W => run_float_arith W .mul _ .f64 x y r h
theorem wAdd {x y r : Nat} (h : Ieee.double.add x y = some r) : ∀ W : World, (binOp .add 22 (.float .f64 x) (.float .f64 y)).run Try.prog W = .ok (.float .f64 r) W := fun W => run_float_arith W .add _ .f64 x y r h
theorem wSub {x y r : Nat} (h : Ieee.double.sub x y = some r) : ∀ W : World, (binOp .sub 22 (.float .f64 x) (.float .f64 y)).run Try.prog W = .ok (.float .f64 r) W := fun W => run_float_arith W .sub _ .f64 x y r h
theorem wDiv {x y r : Nat} (h : Ieee.double.div x y = some r) : ∀ W : World, (binOp .quo 22 (.float .f64 x) (.float .f64 y)).run Try.prog W = .ok (.float .f64 r) W := fun W => run_float_arith W .quo _ .f64 x y r h
theorem times_any {x y r : Nat} (h : Ieee.double.mul x y = some r) (w : World) : Calls Try.prog 39 #[.float .f64 x, .float .f64 y] w fun e w' => e = .returned (.float .f64 r) ∧ w = w' := by
  have h1 := wMul h
  clear h
  go_enter Try.func39, Try.ntmps39
  go_wp2
  go_ret
  exact ⟨rfl, rfl⟩
theorem const_any (c : Nat) (w : World) : Calls Try.prog 36 #[.int .u64 (c : Nat)] w fun e w' => e = .returned (.float .f64 c) ∧ w = w' := by
  have h1 := f64from_run c w
  go_enter Try.func36, Try.ntmps36
  go_wp2
  go_ret
  exact ⟨rfl, rfl⟩
theorem of_any (c : Nat) (w : World) : Calls Try.prog 43 #[.int .u64 (c : Nat)] w fun e w' => e = .returned (.float .f64 c) ∧ w = w' := by
  have h1 := f64from_run c w
  go_enter Try.func43, Try.ntmps43
  go_wp2
  go_ret
  exact ⟨rfl, rfl⟩
theorem vnan_any (w : World) : Calls Try.prog 41 #[] w fun e w' => e = .returned (.float .f64 9221120237041090560) ∧ w = w' := by
  have C := Lib.hid (of_any 9221120237041090560 w)
  go_enter Try.func41, Try.ntmps41
  go_wp2_with fail
  refine C.out.mono ?_
  rintro e w' ⟨rfl, rfl⟩
  go_wp2
  go_ret
  exact ⟨rfl, rfl⟩
end Go.Proofs.Ytbinpcoaghpcdaa
