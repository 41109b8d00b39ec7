/-
  The contract of awake, and of rest.
-/
import Derived.Test.YtbinpcoaghpcdaaBin
import Derived.Test.YtbinpcoaghpcdaaRound2
namespace Go.Proofs.Ytbinpcoaghpcdaa
open Go.RowKit
theorem rest_any (x y r : Nat) (w : World) (hr : ∀ W, Calls Try.prog 113 #[.float .f64 x, .float .f64 y] W fun e w' => e = .returned (.float .f64 r) ∧ W = w') : Calls Try.prog 98 #[.agg #[.float .f64 x, .float .f64 y]] w fun e w' => e = .returned (.float .f64 r) ∧ Below w.heap.size w w' := by
  have C := Lib.hid hr
  have HB := Lib.hid (Below.alloc (Below.refl w.heap.size w) (Nat.le_refl _) (.cells #[.float .f64 x, .float .f64 y] 60))
  clear hr
  go_enter Try.func98, Try.ntmps98
  go_wp2_with fail
  refine (C.out _).mono ?_
  rintro e w' ⟨rfl, rfl⟩
  go_wp2
  go_ret
  exact ⟨rfl, HB.out⟩
end Go.Proofs.Ytbinpcoaghpcdaa
