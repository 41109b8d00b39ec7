/-
  The contract of awake, and of rest.
-/
import Derived.Test.YtacmbbjmcdbcnaaBin
import Derived.Test.YtacmbbjmcdbcnaaRound2
namespace Go.Proofs.Ytacmbbjmcdbcnaa
open Go.RowKit
theorem rest_any (x y r : Nat) (w : World) (hr : ∀ W, Calls Try.prog 57 #[.float .f64 x, .float .f64 y] W fun e w' => e = .returned (.float .f64 r) ∧ W = w') : Calls Try.prog 85 #[.agg #[.float .f64 x, .float .f64 y]] w fun e w' => e = .returned (.float .f64 r) ∧ Below w.heap.size w w' := by
  have C := Lib.hid hr
  have HB := Lib.hid (Below.alloc (Below.refl w.heap.size w) (Nat.le_refl _) (.cells #[.float .f64 x, .float .f64 y] 66))
  clear hr
  go_enter Try.func85, Try.ntmps85
  go_wp2_with fail
  refine (C.out _).mono ?_
  rintro e w' ⟨rfl, rfl⟩
  go_wp2
  go_ret
  exact ⟨rfl, HB.out⟩
theorem modm_awake : modm 4617878467915022336 4611686018427387904 = 4609434218613702656 := by
  refine (modm_eq (by omega) ?_).symm
  decide +kernel
theorem mod_awake (w : World) : Calls Try.prog 57 #[.float .f64 4617878467915022336, .float .f64 4611686018427387904] w fun e w' => e = .returned (.float .f64 4609434218613702656) ∧ w = w' := by
  have h := Mod_fin 4617878467915022336 4611686018427387904 (by omega) (by decide) (by omega) (by decide) (by decide) w
  rw [show rung 4617878467915022336 = 4617878467915022336 by decide, show rung 4611686018427387904 = 4611686018427387904 by decide, modm_awake, show fneg 4617878467915022336 = false by decide] at h
  exact h
theorem binary_awake (w : World) : Calls Try.prog 26 #[.string ⟨#[37]⟩, .float .f64 4617878467915022336, .float .f64 4611686018427387904] w fun e w' => e = .returned (.tuple #[.float .f64 4609434218613702656, .int .i64 0]) ∧ Below w.heap.size w w' :=
  binary_at 4 (by omega) 4617878467915022336 4611686018427387904 4609434218613702656 w (fun W => rest_any _ _ _ W mod_awake)
theorem round_awake (w : World) : Calls Try.prog 40 #[.float .f64 4612811918334230528] w fun e w' => e = .returned (.float .f64 4613937818241073152) ∧ w = w' := by
  have hn : fnan 4612811918334230528 = false := by decide
  have C1 := Lib.hid (fun W => Floor_real 4612811918334230528 W hn)
  rw [show itg .down 4612811918334230528 = 4611686018427387904 by decide +kernel] at C1
  exact nround_up 4612811918334230528 4611686018427387904 4602678819172646912 4613937818241073152 _ w (by omega) (by omega) C1 (by decide +kernel) (by decide +kernel) (by decide +kernel) (by decide +kernel)
set_option maxRecDepth 100000 in
theorem awake_any (w : World) : Calls Try.prog 25 #[] w fun e w' => e = .returned (.bool true) ∧ Below w.heap.size w w' := by
  have C1 := Lib.hid (fun W => binary_awake W)
  have C2 := Lib.hid (fun W => round_awake W)
  have h1 : (FloatKind.f64.format.order 4609434218613702656 4609434218613702656 == some .eq) = true := by decide +kernel
  have h2 : (FloatKind.f64.format.order 4613937818241073152 4613937818241073152 == some .eq) = true := by decide +kernel
  go_enter Try.func25, Try.ntmps25
  go_wp2_with fail
  refine (C1.out _).mono ?_
  rintro e w1 ⟨rfl, b1⟩
  go_wp2_with fail
  refine (C2.out _).mono ?_
  rintro e w2 ⟨rfl, rfl⟩
  go_wp2
  go_ret
  exact ⟨rfl, b1⟩
end Go.Proofs.Ytacmbbjmcdbcnaa
