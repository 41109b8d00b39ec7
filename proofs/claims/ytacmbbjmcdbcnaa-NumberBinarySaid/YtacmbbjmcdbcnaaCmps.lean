/-
  Contracts of Less, Equal and Same of both.
-/
import Derived.Test.YtacmbbjmcdbcnaaSmall
namespace Go.Proofs.Ytacmbbjmcdbcnaa
open Go.RowKit
def lessV (x y : Nat) : Int := if (fnan x || fnan y) = true then -1 else if olt x y = true then 1 else 0
def sameV (x y : Nat) : Bool := (fnan x && fnan y) || (oeq x y && (fneg x == fneg y))
theorem olt_run (x y : Nat) : (FloatKind.f64.format.order x y == some .lt) = olt x y := rfl
theorem oeq_nan {x y : Nat} (h : (fnan x || fnan y) = true) : oeq x y = false := by
  unfold oeq
  rw [show FloatKind.f64.format.order x y = none from order_nan (by unfold fnan at h; simpa using h)]
  rfl
theorem nless_any (x y : Nat) (w : World) : Calls Try.prog 30 #[.float .f64 x, .float .f64 y] w fun e w' => e = .returned (.int .i64 (lessV x y)) ∧ w = w' := by
  have C1 := Lib.hid (fun W => isNaN_any x W)
  have C2 := Lib.hid (fun W => isNaN_any y W)
  have h1 := olt_run x y
  unfold lessV
  cases e1 : fnan x
  · cases e2 : fnan y
    · cases e3 : olt x y
      · rw [e1] at C1; rw [e2] at C2; rw [e3] at h1
        clear e1 e2 e3
        go_enter Try.func30, Try.ntmps30
        go_wp2_with fail
        refine (C1.out _).mono ?_
        rintro e w' ⟨rfl, rfl⟩
        go_wp2_with fail
        refine (C2.out _).mono ?_
        rintro e w' ⟨rfl, rfl⟩
        go_wp2
        go_ret
        exact ⟨rfl, rfl⟩
      · rw [e1] at C1; rw [e2] at C2; rw [e3] at h1
        clear e1 e2 e3
        go_enter Try.func30, Try.ntmps30
        go_wp2_with fail
        refine (C1.out _).mono ?_
        rintro e w' ⟨rfl, rfl⟩
        go_wp2_with fail
        refine (C2.out _).mono ?_
        rintro e w' ⟨rfl, rfl⟩
        go_wp2
        go_ret
        exact ⟨rfl, rfl⟩
    · rw [e1] at C1; rw [e2] at C2
      clear e1 e2
      go_enter Try.func30, Try.ntmps30
      go_wp2_with fail
      refine (C1.out _).mono ?_
      rintro e w' ⟨rfl, rfl⟩
      go_wp2_with fail
      refine (C2.out _).mono ?_
      rintro e w' ⟨rfl, rfl⟩
      go_wp2
      go_ret
      exact ⟨rfl, rfl⟩
  · rw [e1] at C1
    clear e1
    go_enter Try.func30, Try.ntmps30
    go_wp2_with fail
    refine (C1.out _).mono ?_
    rintro e w' ⟨rfl, rfl⟩
    go_wp2
    go_ret
    exact ⟨rfl, rfl⟩
theorem qless_any (x y : Nat) (w : World) : Calls Try.prog 31 #[.float .f64 x, .float .f64 y] w fun e w' => e = .returned (.int .i64 (lessV x y)) ∧ w = w' := by
  have C1 := Lib.hid (fun W => isNaN_any x W)
  have C2 := Lib.hid (fun W => isNaN_any y W)
  have h1 := olt_run x y
  unfold lessV
  cases e1 : fnan x
  · cases e2 : fnan y
    · cases e3 : olt x y
      · rw [e1] at C1; rw [e2] at C2; rw [e3] at h1
        clear e1 e2 e3
        go_enter Try.func31, Try.ntmps31
        go_wp2_with fail
        refine (C1.out _).mono ?_
        rintro e w' ⟨rfl, rfl⟩
        go_wp2_with fail
        refine (C2.out _).mono ?_
        rintro e w' ⟨rfl, rfl⟩
        go_wp2
        go_ret
        exact ⟨rfl, rfl⟩
      · rw [e1] at C1; rw [e2] at C2; rw [e3] at h1
        clear e1 e2 e3
        go_enter Try.func31, Try.ntmps31
        go_wp2_with fail
        refine (C1.out _).mono ?_
        rintro e w' ⟨rfl, rfl⟩
        go_wp2_with fail
        refine (C2.out _).mono ?_
        rintro e w' ⟨rfl, rfl⟩
        go_wp2
        go_ret
        exact ⟨rfl, rfl⟩
    · rw [e1] at C1; rw [e2] at C2
      clear e1 e2
      go_enter Try.func31, Try.ntmps31
      go_wp2_with fail
      refine (C1.out _).mono ?_
      rintro e w' ⟨rfl, rfl⟩
      go_wp2_with fail
      refine (C2.out _).mono ?_
      rintro e w' ⟨rfl, rfl⟩
      go_wp2
      go_ret
      exact ⟨rfl, rfl⟩
  · rw [e1] at C1
    clear e1
    go_enter Try.func31, Try.ntmps31
    go_wp2_with fail
    refine (C1.out _).mono ?_
    rintro e w' ⟨rfl, rfl⟩
    go_wp2
    go_ret
    exact ⟨rfl, rfl⟩
theorem nequal_any (x y : Nat) (w : World) : Calls Try.prog 32 #[.float .f64 x, .float .f64 y] w fun e w' => e = .returned (.bool (oeq x y)) ∧ w = w' := by
  go_enter Try.func32, Try.ntmps32
  go_wp2
  go_ret
  exact ⟨rfl, rfl⟩
theorem qequal_any (x y : Nat) (w : World) : Calls Try.prog 33 #[.float .f64 x, .float .f64 y] w fun e w' => e = .returned (.bool (oeq x y)) ∧ w = w' := by
  go_enter Try.func33, Try.ntmps33
  go_wp2
  go_ret
  exact ⟨rfl, rfl⟩
theorem oeq_run (x y : Nat) : (FloatKind.f64.format.order x y == some .eq) = oeq x y := rfl
theorem nsame_any (x y : Nat) (w : World) (hx : x < 18446744073709551616) (hy : y < 18446744073709551616) : Calls Try.prog 34 #[.float .f64 x, .float .f64 y] w fun e w' => e = .returned (.bool (sameV x y)) ∧ w = w' := by
  have C1 := Lib.hid (fun W => isNaN_any x W)
  have C2 := Lib.hid (fun W => isNaN_any y W)
  have C3 := Lib.hid (fun W => nequal_any x y W)
  have C4 := Lib.hid (fun W => signbit_any x W hx)
  have C5 := Lib.hid (fun W => signbit_any y W hy)
  unfold sameV
  cases e1 : fnan x
  · rw [e1] at C1
    cases e3 : oeq x y
    · rw [e3] at C3
      clear e1 e3 hx hy
      go_enter Try.func34, Try.ntmps34
      go_wp2_with fail
      refine (C1.out _).mono ?_
      rintro e w' ⟨rfl, rfl⟩
      go_wp2_with fail
      refine (C3.out _).mono ?_
      rintro e w' ⟨rfl, rfl⟩
      go_wp2
      go_ret
      exact ⟨rfl, rfl⟩
    · rw [e3] at C3
      clear e1 e3 hx hy
      go_enter Try.func34, Try.ntmps34
      go_wp2_with fail
      refine (C1.out _).mono ?_
      rintro e w' ⟨rfl, rfl⟩
      go_wp2_with fail
      refine (C3.out _).mono ?_
      rintro e w' ⟨rfl, rfl⟩
      go_wp2_with fail
      refine (C4.out _).mono ?_
      rintro e w' ⟨rfl, rfl⟩
      go_wp2_with fail
      refine (C5.out _).mono ?_
      rintro e w' ⟨rfl, rfl⟩
      go_wp2
      go_ret
      exact ⟨rfl, rfl⟩
  · rw [e1] at C1
    rw [oeq_nan (by rw [e1]; rfl)]
    clear e1 hx hy
    go_enter Try.func34, Try.ntmps34
    go_wp2_with fail
    refine (C1.out _).mono ?_
    rintro e w' ⟨rfl, rfl⟩
    go_wp2_with fail
    refine (C2.out _).mono ?_
    rintro e w' ⟨rfl, rfl⟩
    go_wp2
    go_ret
    exact ⟨by simp, rfl⟩
theorem qsame_any (x y : Nat) (w : World) (hx : x < 18446744073709551616) (hy : y < 18446744073709551616) : Calls Try.prog 35 #[.float .f64 x, .float .f64 y] w fun e w' => e = .returned (.bool (sameV x y)) ∧ w = w' := by
  have C1 := Lib.hid (fun W => isNaN_any x W)
  have C2 := Lib.hid (fun W => isNaN_any y W)
  have C4 := Lib.hid (fun W => signbit_any x W hx)
  have C5 := Lib.hid (fun W => signbit_any y W hy)
  have h1 := oeq_run x y
  have key : ∀ a : Bool, fnan x = a → (a = false ∨ fnan y = false) → Calls Try.prog 35 #[.float .f64 x, .float .f64 y] w fun e w' => e = .returned (.bool (oeq x y && (fneg x == fneg y))) ∧ w = w' := by
    intro a e1 e2
    cases e3 : oeq x y
    · rw [e3] at h1
      cases a
      · rw [e1] at C1
        clear e1 e3 hx hy e2
        go_enter Try.func35, Try.ntmps35
        go_wp2_with fail
        refine (C1.out _).mono ?_
        rintro e w' ⟨rfl, rfl⟩
        go_wp2
        go_ret
        exact ⟨rfl, rfl⟩
      · rw [e1] at C1
        rw [e2.resolve_left (by simp)] at C2
        clear e1 e3 hx hy e2
        go_enter Try.func35, Try.ntmps35
        go_wp2_with fail
        refine (C1.out _).mono ?_
        rintro e w' ⟨rfl, rfl⟩
        go_wp2_with fail
        refine (C2.out _).mono ?_
        rintro e w' ⟨rfl, rfl⟩
        go_wp2
        go_ret
        exact ⟨rfl, rfl⟩
    · cases a
      · rw [e1] at C1
        rw [e3] at h1
        clear e1 e3 hx hy e2
        go_enter Try.func35, Try.ntmps35
        go_wp2_with fail
        refine (C1.out _).mono ?_
        rintro e w' ⟨rfl, rfl⟩
        go_wp2_with fail
        refine (C4.out _).mono ?_
        rintro e w' ⟨rfl, rfl⟩
        go_wp2_with fail
        refine (C5.out _).mono ?_
        rintro e w' ⟨rfl, rfl⟩
        go_wp2
        go_ret
        exact ⟨rfl, rfl⟩
      · rw [oeq_nan (by rw [e1]; rfl)] at e3; cases e3
  unfold sameV
  cases e1 : fnan x
  · exact key false e1 (.inl rfl)
  · cases e2 : fnan y
    · exact key true e1 (.inr e2)
    · rw [e1] at C1; rw [e2] at C2
      clear e1 e2 key hx hy
      go_enter Try.func35, Try.ntmps35
      go_wp2_with fail
      refine (C1.out _).mono ?_
      rintro e w' ⟨rfl, rfl⟩
      go_wp2_with fail
      refine (C2.out _).mono ?_
      rintro e w' ⟨rfl, rfl⟩
      go_wp2
      go_ret
      exact ⟨rfl, rfl⟩
end Go.Proofs.Ytacmbbjmcdbcnaa
