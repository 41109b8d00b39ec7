/-
  Contracts of Abs and Sqrt of both; the law NumberRounds.
-/
import Derived.Test.YtacmbbjmcdbcnaaAwake
namespace Go.Proofs.Ytacmbbjmcdbcnaa
open Go.RowKit
theorem rung_cn (x : Nat) : cn (rung x) = if fnan x = true then 9221120237041090560 else rung x := by
  unfold cn
  rw [nan_rung (rung_rung x).1]
theorem nabs_any (x : Nat) (w : World) (hx : x < 18446744073709551616) : Calls Try.prog 42 #[.float .f64 x] w fun e w' => e = .returned (.float .f64 (cn (rung x))) ∧ w = w' := by
  have C1 := Lib.hid (fun W => abs_any x W hx)
  have C2 := Lib.hid (fun W => told_any (rung x) W)
  clear hx
  go_enter Try.func42, Try.ntmps42
  go_wp2_with fail
  refine (C1.out _).mono ?_
  rintro e w' ⟨rfl, rfl⟩
  go_wp2_with fail
  refine (C2.out _).mono ?_
  rintro e w' ⟨rfl, rfl⟩
  go_wp2
  go_ret
  exact ⟨rfl, rfl⟩
theorem qabs_any (x : Nat) (w : World) (hx : x < 18446744073709551616) : Calls Try.prog 43 #[.float .f64 x] w fun e w' => e = .returned (.float .f64 (cn (rung x))) ∧ w = w' := by
  have C1 := Lib.hid (fun W => abs_any x W hx)
  have C2 := Lib.hid (fun W => plain_any (rung x) W)
  clear hx
  go_enter Try.func43, Try.ntmps43
  go_wp2_with fail
  refine (C1.out _).mono ?_
  rintro e w' ⟨rfl, rfl⟩
  go_wp2_with fail
  refine (C2.out _).mono ?_
  rintro e w' ⟨rfl, rfl⟩
  go_wp2
  go_ret
  exact ⟨rfl, rfl⟩
/-- The root, as it is told. -/
def tSqrt (x : Nat) : Nat := match Ieee.double.sqrt x with
  | some r => cn r
  | none => 9221120237041090560
theorem sqrt_run (x : Nat) (w : World) : ∃ y n, (callFunc 104 #[.float .f64 x]).run Try.prog w = .ok (.value (.float .f64 y)) (w.drewN n) ∧ cn y = tSqrt x := by
  have key : ∀ o : Option Nat, Ieee.double.sqrt x = o → ∃ y n, (Extern.MathSqrt.sqrt #[.float .f64 x]).run Try.prog w = .ok (.float .f64 y) (w.drewN n) ∧ cn y = tSqrt x := by
    intro o ho
    have e1 : Extern.MathSqrt.sqrt #[.float .f64 x] = (match Ieee.double.sqrt x with
      | some r => pure (Value.float .f64 r)
      | none => do pure (Value.float .f64 (← choose (.nanBits .f64 x x)))) := rfl
    unfold tSqrt
    rw [e1, ho]
    cases o with
    | some r => exact ⟨r, 0, rfl, rfl⟩
    | none =>
      have hf : (Question.nanBits .f64 x x).forced = false := rfl
      exact ⟨(Question.nanBits .f64 x x).cut (w.tape w.drawn (.nanBits .f64 x x)), 1, by simp [hf]; rfl, cn_nan (cut_nan _ _ _).1⟩
  obtain ⟨y, n, h1, h2⟩ := key _ rfl
  refine ⟨y, n, ?_, h2⟩
  rw [run_callFunc_extern (e := Extern.MathSqrt.sqrt) Try.func104 (by kernel_rfl) (by kernel_rfl) (by kernel_rfl) (by kernel_rfl), h1]
  rfl
theorem Sqrt_any (x : Nat) (w : World) : Calls Try.prog 70 #[.float .f64 x] w fun e w' => ∃ y, e = .returned (.float .f64 y) ∧ Hid (cn y = tSqrt x) ∧ ∃ n, w' = w.drewN n := by
  obtain ⟨y, n, h1, h2⟩ := sqrt_run x w
  have H2 := Lib.hid h2
  clear h2
  go_enter Try.func70, Try.ntmps70
  go_wp2
  go_ret
  exact ⟨y, rfl, H2, n, rfl⟩
theorem nsqrt_any (x : Nat) (w : World) : Calls Try.prog 44 #[.float .f64 x] w fun e w' => e = .returned (.float .f64 (tSqrt x)) ∧ ∃ n, w' = w.drewN n := by
  have C1 := Lib.hid (fun W => Sqrt_any x W)
  have C2 := Lib.hid (fun y W => told_any y W)
  go_enter Try.func44, Try.ntmps44
  go_wp2_with fail
  refine (C1.out _).mono ?_
  rintro e w' ⟨y, rfl, hy, n, rfl⟩
  go_wp2_with fail
  refine (C2.out _ _).mono ?_
  rintro e w' ⟨rfl, rfl⟩
  have HF := Lib.hid (show cn y = tSqrt x from hy.out)
  go_wp2
  go_ret
  exact ⟨congrArg (fun z => Ending.returned (.float .f64 z)) HF.out, n, rfl⟩
theorem qsqrt_any (x : Nat) (w : World) : Calls Try.prog 45 #[.float .f64 x] w fun e w' => e = .returned (.float .f64 (tSqrt x)) ∧ ∃ n, w' = w.drewN n := by
  have C1 := Lib.hid (fun W => Sqrt_any x W)
  have C2 := Lib.hid (fun y W => plain_any y W)
  go_enter Try.func45, Try.ntmps45
  go_wp2_with fail
  refine (C1.out _).mono ?_
  rintro e w' ⟨y, rfl, hy, n, rfl⟩
  go_wp2_with fail
  refine (C2.out _ _).mono ?_
  rintro e w' ⟨rfl, rfl⟩
  have HF := Lib.hid (show cn y = tSqrt x from hy.out)
  go_wp2
  go_ret
  exact ⟨congrArg (fun z => Ending.returned (.float .f64 z)) HF.out, n, rfl⟩
theorem drew_below {w w' : World} (h : ∃ n, w' = w.drewN n) : Below w.heap.size w w' := by
  obtain ⟨n, rfl⟩ := h
  exact below_drewN' (Below.refl _ _) n
set_option maxRecDepth 100000 in
set_option maxHeartbeats 1000000 in
theorem rounds_any (x : Nat) (w : World) (hx : x < 18446744073709551616) : Calls Try.prog 7 #[.float .f64 x] w fun e w' => e = .returned (.bool true) ∧ Below w.heap.size w w' := by
  obtain ⟨z, R1, R2⟩ := round_both x hx
  have C1 := Lib.hid (fun W => nFloor_any x W hx)
  have C2 := Lib.hid (fun W => qFloor_any x W hx)
  have C3 := Lib.hid (fun W => nCeil_any x W hx)
  have C4 := Lib.hid (fun W => qCeil_any x W hx)
  have C5 := Lib.hid R1
  have C6 := Lib.hid R2
  have C7 := Lib.hid (fun W => nabs_any x W hx)
  have C8 := Lib.hid (fun W => qabs_any x W hx)
  have C9 := Lib.hid (fun W => nsqrt_any x W)
  have C10 := Lib.hid (fun W => qsqrt_any x W)
  have CS := Lib.hid (fun a W => same_any a W)
  have CA := Lib.hid (fun W => awake_any W)
  obtain ⟨a, ha⟩ : ∃ a, tFloor x = a := ⟨_, rfl⟩
  obtain ⟨b, hb⟩ : ∃ b, tCeil x = b := ⟨_, rfl⟩
  obtain ⟨c, hc⟩ : ∃ c, cn (rung x) = c := ⟨_, rfl⟩
  obtain ⟨d, hd⟩ : ∃ d, tSqrt x = d := ⟨_, rfl⟩
  rw [ha] at C1 C2
  rw [hb] at C3 C4
  rw [hc] at C7 C8
  rw [hd] at C9 C10
  clear hx R1 R2 ha hb hc hd
  go_enter Try.func7, Try.ntmps7
  go_wp2_with fail
  refine (C1.out _).mono ?_
  rintro e w1 ⟨rfl, n1⟩
  have B1 := drew_below n1
  clear n1
  go_wp2_with fail
  refine (C2.out _).mono ?_
  rintro e w2 ⟨rfl, n2⟩
  have B2 := below_le B1 (drew_below n2)
  clear n2
  go_wp2_with fail
  refine (CS.out _ _).mono ?_
  rintro e w' ⟨rfl, rfl⟩
  go_wp2_with fail
  refine (C3.out _).mono ?_
  rintro e w3 ⟨rfl, n3⟩
  have B3 := below_le B2 (drew_below n3)
  clear n3
  go_wp2_with fail
  refine (C4.out _).mono ?_
  rintro e w4 ⟨rfl, n4⟩
  have B4 := below_le B3 (drew_below n4)
  clear n4
  go_wp2_with fail
  refine (CS.out _ _).mono ?_
  rintro e w' ⟨rfl, rfl⟩
  go_wp2_with fail
  refine (C5.out _).mono ?_
  rintro e w5 ⟨rfl, n5⟩
  have B5 := below_le B4 (drew_below n5)
  clear n5
  go_wp2_with fail
  refine (C6.out _).mono ?_
  rintro e w6 ⟨rfl, n6⟩
  have B6 := below_le B5 (drew_below n6)
  clear n6
  go_wp2_with fail
  refine (CS.out _ _).mono ?_
  rintro e w' ⟨rfl, rfl⟩
  go_wp2_with fail
  refine (C7.out _).mono ?_
  rintro e w' ⟨rfl, rfl⟩
  go_wp2_with fail
  refine (C8.out _).mono ?_
  rintro e w' ⟨rfl, rfl⟩
  go_wp2_with fail
  refine (CS.out _ _).mono ?_
  rintro e w' ⟨rfl, rfl⟩
  go_wp2_with fail
  refine (C9.out _).mono ?_
  rintro e w7 ⟨rfl, n7⟩
  have B7 := below_le B6 (drew_below n7)
  clear n7
  go_wp2_with fail
  refine (C10.out _).mono ?_
  rintro e w8 ⟨rfl, n8⟩
  have B8 := below_le B7 (drew_below n8)
  clear n8
  go_wp2_with fail
  refine (CS.out _ _).mono ?_
  rintro e w' ⟨rfl, rfl⟩
  go_wp2_with fail
  refine (CA.out _).mono ?_
  rintro e w9 ⟨rfl, b9⟩
  have B9 := below_le B8 b9
  go_wp2
  go_ret
  exact ⟨rfl, B9⟩
end Go.Proofs.Ytacmbbjmcdbcnaa
