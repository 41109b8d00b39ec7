/-
  Less, Equal and Same of numbers, of the program and of the reference; NaN as it is told.
-/
import Derived.Laws.FloatArith
import Derived.Laws.Externs
import Derived.Deep.RegionWith
import Ieee.Arith
import GoSem.Core.Float
import GoSem.Core.Utf8
import Derived.WalkKit
import Derived.WalkSpells
import Derived.WalkLawsBesides
import Derived.Deep.QuietTactic
import Derived.BigQuiet
import Derived.Lib.Hide
import Derived.Deep.OwnRows
import Derived.Laws.CopyOwn
import Derived.Deep.AppendLies
import Derived.Lib.BitFns
import Derived.Lib.Strings
import Derived.Laws.BitsAllLaws
import Derived.Lib.LaidTab
import Derived.Lib.ItoaNum
import Derived.Deep.DeepCutAuto
import Derived.ProofKit
import Derived.OpenShut
import Derived.SizedLaws
import Derived.Laws.BytesString
import Derived.Laws.Cells
import Derived.BigRegion
import Derived.Test.YtlkgijinckhkkaaProg
import Derived.Test.YtlkgijinckhkkaaRows
import Derived.Test.YtlkgijinckhkkaaShelf
import Derived.Test.YtlkgijinckhkkaaBF
namespace Go.Proofs.Ytlkgijinckhkkaa
open Go.RowKit
/-- A float as it is told: each NaN is the one. -/
def cn (x : Nat) : Nat := if fnan x = true then 9221120237041090560 else x
def olt (x y : Nat) : Bool := FloatKind.f64.format.order x y == some .lt
def oeq (x y : Nat) : Bool := FloatKind.f64.format.order x y == some .eq
theorem sgn_wrap (x : Nat) (hx : x < 18446744073709551616) : decide (wrap64 (x : Int) < 0) = fneg x := by
  unfold fneg wrap64
  by_cases h : x < 9223372036854775808
  · rw [decide_eq_false (by omega), Nat.div_eq_of_lt h]; rfl
  · rw [decide_eq_true (by omega), show x / 9223372036854775808 = 1 by omega]; rfl
theorem sgnbit_any (x : Nat) (w : World) (hx : x < 18446744073709551616) : Calls Try.prog 57 #[.float .f64 x] w fun e w' => e = .returned (.bool (fneg x)) ∧ w = w' := by
  have h1 := f64bits_run x w
  have h2 := Lib.hid (sgn_wrap x hx)
  clear hx
  go_enter Try.func57, Try.ntmps57
  go_wp2
  go_ret
  exact ⟨by rw [← h2.out]; rfl, rfl⟩
def lessV (x y : Nat) : Int := if (fnan x || fnan y) = true then -1 else if olt x y = true then 1 else 0
def sameV (x y : Nat) : Bool := (fnan x && fnan y) || (oeq x y && (fneg x == fneg y))
theorem olt_run (x y : Nat) : (FloatKind.f64.format.order x y == some .lt) = olt x y := rfl
theorem oeq_nan {x y : Nat} (h : (fnan x || fnan y) = true) : oeq x y = false := by
  unfold oeq
  rw [show FloatKind.f64.format.order x y = none from order_nan (by unfold fnan at h; simpa using h)]
  rfl
theorem nequal_any (x y : Nat) (w : World) : Calls Try.prog 59 #[.float .f64 x, .float .f64 y] w fun e w' => e = .returned (.bool (oeq x y)) ∧ w = w' := by
  go_enter Try.func59, Try.ntmps59
  go_wp2
  go_ret
  exact ⟨rfl, rfl⟩
theorem oeq_run (x y : Nat) : (FloatKind.f64.format.order x y == some .eq) = oeq x y := rfl
theorem nsame_any (x y : Nat) (w : World) (hx : x < 18446744073709551616) (hy : y < 18446744073709551616) : Calls Try.prog 56 #[.float .f64 x, .float .f64 y] w fun e w' => e = .returned (.bool (sameV x y)) ∧ w = w' := by
  have C1 := Lib.hid (fun W => isNaN_any x W)
  have C2 := Lib.hid (fun W => isNaN_any y W)
  have C3 := Lib.hid (fun W => nequal_any x y W)
  have C4 := Lib.hid (fun W => sgnbit_any x W hx)
  have C5 := Lib.hid (fun W => sgnbit_any y W hy)
  unfold sameV
  cases e1 : fnan x
  · rw [e1] at C1
    cases e3 : oeq x y
    · rw [e3] at C3
      clear e1 e3 hx hy
      go_enter Try.func56, Try.ntmps56
      go_wp2_with fail
      refine (C1.out _).mono ?_
      rintro e w' ⟨rfl, rfl⟩
      go_wp2_with fail
      refine (C3.out _).mono ?_
      rintro e w' ⟨rfl, rfl⟩
      go_wp2
      go_ret
      exact ⟨rfl, rfl⟩
    · rw [e3] at C3
      clear e1 e3 hx hy
      go_enter Try.func56, Try.ntmps56
      go_wp2_with fail
      refine (C1.out _).mono ?_
      rintro e w' ⟨rfl, rfl⟩
      go_wp2_with fail
      refine (C3.out _).mono ?_
      rintro e w' ⟨rfl, rfl⟩
      go_wp2_with fail
      refine (C4.out _).mono ?_
      rintro e w' ⟨rfl, rfl⟩
      go_wp2_with fail
      refine (C5.out _).mono ?_
      rintro e w' ⟨rfl, rfl⟩
      go_wp2
      go_ret
      exact ⟨rfl, rfl⟩
  · rw [e1] at C1
    rw [oeq_nan (by rw [e1]; rfl)]
    clear e1 hx hy
    go_enter Try.func56, Try.ntmps56
    go_wp2_with fail
    refine (C1.out _).mono ?_
    rintro e w' ⟨rfl, rfl⟩
    go_wp2_with fail
    refine (C2.out _).mono ?_
    rintro e w' ⟨rfl, rfl⟩
    go_wp2
    go_ret
    exact ⟨by simp, rfl⟩
theorem qsame_any (x y : Nat) (w : World) (hx : x < 18446744073709551616) (hy : y < 18446744073709551616) : Calls Try.prog 51 #[.float .f64 x, .float .f64 y] w fun e w' => e = .returned (.bool (sameV x y)) ∧ w = w' := by
  have C1 := Lib.hid (fun W => isNaN_any x W)
  have C2 := Lib.hid (fun W => isNaN_any y W)
  have C4 := Lib.hid (fun W => sgnbit_any x W hx)
  have C5 := Lib.hid (fun W => sgnbit_any y W hy)
  have h1 := oeq_run x y
  have key : ∀ a : Bool, fnan x = a → (a = false ∨ fnan y = false) → Calls Try.prog 51 #[.float .f64 x, .float .f64 y] w fun e w' => e = .returned (.bool (oeq x y && (fneg x == fneg y))) ∧ w = w' := by
    intro a e1 e2
    cases e3 : oeq x y
    · rw [e3] at h1
      cases a
      · rw [e1] at C1
        clear e1 e3 hx hy e2
        go_enter Try.func51, Try.ntmps51
        go_wp2_with fail
        refine (C1.out _).mono ?_
        rintro e w' ⟨rfl, rfl⟩
        go_wp2
        go_ret
        exact ⟨rfl, rfl⟩
      · rw [e1] at C1
        rw [e2.resolve_left (by simp)] at C2
        clear e1 e3 hx hy e2
        go_enter Try.func51, Try.ntmps51
        go_wp2_with fail
        refine (C1.out _).mono ?_
        rintro e w' ⟨rfl, rfl⟩
        go_wp2_with fail
        refine (C2.out _).mono ?_
        rintro e w' ⟨rfl, rfl⟩
        go_wp2
        go_ret
        exact ⟨rfl, rfl⟩
    · cases a
      · rw [e1] at C1
        rw [e3] at h1
        clear e1 e3 hx hy e2
        go_enter Try.func51, Try.ntmps51
        go_wp2_with fail
        refine (C1.out _).mono ?_
        rintro e w' ⟨rfl, rfl⟩
        go_wp2_with fail
        refine (C4.out _).mono ?_
        rintro e w' ⟨rfl, rfl⟩
        go_wp2_with fail
        refine (C5.out _).mono ?_
        rintro e w' ⟨rfl, rfl⟩
        go_wp2
        go_ret
        exact ⟨rfl, rfl⟩
      · rw [oeq_nan (by rw [e1]; rfl)] at e3; cases e3
  unfold sameV
  cases e1 : fnan x
  · exact key false e1 (.inl rfl)
  · cases e2 : fnan y
    · exact key true e1 (.inr e2)
    · rw [e1] at C1; rw [e2] at C2
      clear e1 e2 key hx hy
      go_enter Try.func51, Try.ntmps51
      go_wp2_with fail
      refine (C1.out _).mono ?_
      rintro e w' ⟨rfl, rfl⟩
      go_wp2_with fail
      refine (C2.out _).mono ?_
      rintro e w' ⟨rfl, rfl⟩
      go_wp2
      go_ret
      exact ⟨rfl, rfl⟩

end Go.Proofs.Ytlkgijinckhkkaa
