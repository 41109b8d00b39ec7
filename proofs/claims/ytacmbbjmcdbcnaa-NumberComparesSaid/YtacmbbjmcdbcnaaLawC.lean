/-
  The law NumberCompares.
-/
import Derived.Test.YtacmbbjmcdbcnaaAwake
namespace Go.Proofs.Ytacmbbjmcdbcnaa
open Go.RowKit
set_option maxRecDepth 100000 in
theorem compares_any (x y : Nat) (w : World) (hx : x < 18446744073709551616) (hy : y < 18446744073709551616) :
    Calls Try.prog 6 #[.float .f64 x, .float .f64 y] w fun e w' => e = .returned (.bool true) ∧ Below w.heap.size w w' := by
  have C1 := Lib.hid (fun W => nless_any x y W)
  have C2 := Lib.hid (fun W => qless_any x y W)
  have C3 := Lib.hid (fun W => nequal_any x y W)
  have C4 := Lib.hid (fun W => qequal_any x y W)
  have C5 := Lib.hid (fun W => nsame_any x y W hx hy)
  have C6 := Lib.hid (fun W => qsame_any x y W hx hy)
  have C7 := Lib.hid (fun W => awake_any W)
  obtain ⟨a, ha⟩ : ∃ a, lessV x y = a := ⟨_, rfl⟩
  obtain ⟨b, hb⟩ : ∃ b, oeq x y = b := ⟨_, rfl⟩
  obtain ⟨c, hc⟩ : ∃ c, sameV x y = c := ⟨_, rfl⟩
  rw [ha] at C1 C2
  rw [hb] at C3 C4
  rw [hc] at C5 C6
  clear hx hy ha hb hc
  go_enter Try.func6, Try.ntmps6
  go_wp2_with fail
  refine (C1.out _).mono ?_
  rintro e w1 ⟨rfl, rfl⟩
  go_wp2_with fail
  refine (C2.out _).mono ?_
  rintro e w1 ⟨rfl, rfl⟩
  go_wp2_with fail
  refine (C3.out _).mono ?_
  rintro e w1 ⟨rfl, rfl⟩
  go_wp2_with fail
  refine (C4.out _).mono ?_
  rintro e w1 ⟨rfl, rfl⟩
  go_wp2_with fail
  refine (C5.out _).mono ?_
  rintro e w1 ⟨rfl, rfl⟩
  go_wp2_with fail
  refine (C6.out _).mono ?_
  rintro e w1 ⟨rfl, rfl⟩
  go_wp2_with fail
  refine (C7.out _).mono ?_
  rintro e w1 ⟨rfl, b1⟩
  go_wp2
  go_ret
  exact ⟨rfl, b1⟩
end Go.Proofs.Ytacmbbjmcdbcnaa
