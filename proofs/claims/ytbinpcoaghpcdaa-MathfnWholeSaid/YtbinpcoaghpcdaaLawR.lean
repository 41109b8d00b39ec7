/-
  Contracts of Abs and Sqrt of both; the law NumberRounds.
-/
import Derived.Test.YtbinpcoaghpcdaaAwake
namespace Go.Proofs.Ytbinpcoaghpcdaa
open Go.RowKit
/-- The root, as it is told. -/
def tSqrt (x : Nat) : Nat := match Ieee.double.sqrt x with
  | some r => cn r
  | none => 9221120237041090560
theorem sqrt_run (x : Nat) (w : World) : ∃ y n, (callFunc 93 #[.float .f64 x]).run Try.prog w = .ok (.value (.float .f64 y)) (w.drewN n) ∧ cn y = tSqrt x := by
  have key : ∀ o : Option Nat, Ieee.double.sqrt x = o → ∃ y n, (Extern.MathSqrt.sqrt #[.float .f64 x]).run Try.prog w = .ok (.float .f64 y) (w.drewN n) ∧ cn y = tSqrt x := by
    intro o ho
    have e1 : Extern.MathSqrt.sqrt #[.float .f64 x] = (match Ieee.double.sqrt x with
      | some r => pure (Value.float .f64 r)
      | none => do pure (Value.float .f64 (← choose (.nanBits .f64 x x)))) := rfl
    unfold tSqrt
    rw [e1, ho]
    cases o with
    | some r => exact ⟨r, 0, rfl, rfl⟩
    | none =>
      have hf : (Question.nanBits .f64 x x).forced = false := rfl
      exact ⟨(Question.nanBits .f64 x x).cut (w.tape w.drawn (.nanBits .f64 x x)), 1, by simp [hf]; rfl, cn_nan (cut_nan _ _ _).1⟩
  obtain ⟨y, n, h1, h2⟩ := key _ rfl
  refine ⟨y, n, ?_, h2⟩
  rw [run_callFunc_extern (e := Extern.MathSqrt.sqrt) Try.func93 (by kernel_rfl) (by kernel_rfl) (by kernel_rfl) (by kernel_rfl), h1]
  rfl
theorem Sqrt_any (x : Nat) (w : World) : Calls Try.prog 78 #[.float .f64 x] w fun e w' => ∃ y, e = .returned (.float .f64 y) ∧ Hid (cn y = tSqrt x) ∧ ∃ n, w' = w.drewN n := by
  obtain ⟨y, n, h1, h2⟩ := sqrt_run x w
  have H2 := Lib.hid h2
  clear h2
  go_enter Try.func78, Try.ntmps78
  go_wp2
  go_ret
  exact ⟨y, rfl, H2, n, rfl⟩
theorem nsqrt_any (x : Nat) (w : World) : Calls Try.prog 77 #[.float .f64 x] w fun e w' => e = .returned (.float .f64 (tSqrt x)) ∧ ∃ n, w' = w.drewN n := by
  have C1 := Lib.hid (fun W => Sqrt_any x W)
  have C2 := Lib.hid (fun y W => told_any y W)
  go_enter Try.func77, Try.ntmps77
  go_wp2_with fail
  refine (C1.out _).mono ?_
  rintro e w' ⟨y, rfl, hy, n, rfl⟩
  go_wp2_with fail
  refine (C2.out _ _).mono ?_
  rintro e w' ⟨rfl, rfl⟩
  have HF := Lib.hid (show cn y = tSqrt x from hy.out)
  go_wp2
  go_ret
  exact ⟨congrArg (fun z => Ending.returned (.float .f64 z)) HF.out, n, rfl⟩
end Go.Proofs.Ytbinpcoaghpcdaa
