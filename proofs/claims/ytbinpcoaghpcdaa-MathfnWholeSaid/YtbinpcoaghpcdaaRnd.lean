/-
  Contracts of Floor, Ceil, Trunc of the library (externs), of Floor and Ceil of both, and of Copysign.
-/
import Derived.Test.YtbinpcoaghpcdaaMod
namespace Go.Proofs.Ytbinpcoaghpcdaa
open Go.RowKit
/-- A float that is none of the NaNs made whole. -/
def itg (way : Ieee.Toward) (x : Nat) : Nat := FloatKind.f64.encode ((FloatKind.f64.decode x).integral way)
theorem read_real {x : Nat} (h : fnan x = false) (s : Bool) (t : Nat) : Ieee.double.read x ≠ .nan s t := by
  intro e
  unfold fnan at h
  have h1 := of_decide_eq_false h
  rcases Nat.lt_or_ge (rung x) 9218868437227405312 with h2 | h2
  · obtain ⟨m, i, a, _⟩ := read_num h2
    rw [a] at e
    cases e
  · rw [read_inf (by omega)] at e
    cases e
/-- What the extern does with a datum. -/
def integD (way : Ieee.Toward) (x : Nat) : Ieee.Datum → Sem Value
  | .nan s t => if FloatKind.f64.format.quiet t = t then pure (.float .f64 x) else do
      let kept ← choose (.extern "math.Floor,Ceil,Trunc,RoundToEven.signallingNaN kept" 2)
      pure (.float .f64 (if kept == 1 then x else FloatKind.f64.encode (.nan s (FloatKind.f64.format.quiet t))))
  | d => pure (.float .f64 (FloatKind.f64.encode (d.integral way)))
theorem integ_eq (name : String) (way : Ieee.Toward) (x : Nat) : Extern.MathFloor.toIntegral name way #[.float .f64 x] = integD way x (FloatKind.f64.decode x) := rfl
theorem integ_run (name : String) (way : Ieee.Toward) (x : Nat) (w : World) (h : fnan x = false) : (Extern.MathFloor.toIntegral name way #[.float .f64 x]).run Try.prog w = .ok (.float .f64 (itg way x)) w := by
  unfold itg
  rcases hd : FloatKind.f64.decode x with ⟨s, m, e⟩ | s | ⟨s, t⟩
  · rw [integ_eq, hd]; rfl
  · rw [integ_eq, hd]; rfl
  · exact absurd hd (read_real h s t)
theorem quiet_nan (s : Bool) (t : Nat) (ht : t < 4503599627370496) : fnan (FloatKind.f64.encode (.nan s (FloatKind.f64.format.quiet t))) = true ∧ FloatKind.f64.encode (.nan s (FloatKind.f64.format.quiet t)) < 18446744073709551616 := by
  have e1 : FloatKind.f64.encode (.nan s (FloatKind.f64.format.quiet t)) = Ieee.double.word s (9218868437227405312 + (t ||| 2251799813685248) % 4503599627370496) := by
    show Ieee.double.word s (Ieee.double.infRung + (t ||| 2 ^ 51) % Ieee.double.binade) = _
    rw [show Ieee.double.binade = 4503599627370496 by decide, show Ieee.double.infRung = 9218868437227405312 by decide]
  have h1 : t ||| 2251799813685248 < 2 ^ 52 := Nat.or_lt_two_pow ht (by omega)
  have h2 : 2251799813685248 ≤ t ||| 2251799813685248 := Nat.right_le_or
  have h3 : (2 : Nat) ^ 52 = 4503599627370496 := rfl
  rw [e1, Nat.mod_eq_of_lt (by omega)]
  obtain ⟨a, _, c⟩ := word_rung s (r := 9218868437227405312 + (t ||| 2251799813685248)) (by omega)
  refine ⟨?_, c⟩
  unfold fnan
  rw [a]
  exact decide_eq_true (by omega)
theorem read_nan_of {x : Nat} (h : fnan x = true) : ∃ s t, Ieee.double.read x = .nan s t ∧ t < 4503599627370496 := by
  unfold fnan at h
  have h1 := of_decide_eq_true h
  have e1 : Ieee.double.signWeight = 9223372036854775808 := by decide
  have e2 : Ieee.double.binade = 4503599627370496 := by decide
  have e3 : Ieee.double.infRung = 9218868437227405312 := by decide
  unfold rung at h1
  unfold Ieee.Format.read
  simp only [e1, e2, e3]
  rw [if_neg (by omega), if_neg (by omega), if_neg (by omega)]
  exact ⟨_, _, rfl, by omega⟩
theorem integ_nan (name : String) (way : Ieee.Toward) (x : Nat) (w : World) (hx : x < 18446744073709551616) (h : fnan x = true) : ∃ y n, (Extern.MathFloor.toIntegral name way #[.float .f64 x]).run Try.prog w = .ok (.float .f64 y) (w.drewN n) ∧ fnan y = true ∧ y < 18446744073709551616 := by
  obtain ⟨s, t, hr, ht⟩ := read_nan_of h
  have hd : FloatKind.f64.decode x = .nan s t := hr
  rw [integ_eq, hd]
  unfold integD
  dsimp only
  by_cases hq : FloatKind.f64.format.quiet t = t
  · rw [if_pos hq]
    exact ⟨x, 0, rfl, h, hx⟩
  · rw [if_neg hq]
    have hf : (Question.extern "math.Floor,Ceil,Trunc,RoundToEven.signallingNaN kept" 2).forced = false := rfl
    simp only [Sem.run_bind, run_choose, hf, Bool.false_eq_true, if_false, Result.andThen, Sem.run_pure]
    refine ⟨_, 1, rfl, ?_⟩
    split
    · exact ⟨h, hx⟩
    · exact quiet_nan s t ht
theorem archFloor_run (x : Nat) (w : World) (h : fnan x = false) : (callFunc 70 #[.float .f64 x]).run Try.prog w = .ok (.value (.float .f64 (itg .down x))) w := by
  rw [run_callFunc_extern (e := Extern.MathFloor.toIntegral "math.archFloor" .down) Try.func70 (by kernel_rfl) (by kernel_rfl) (by kernel_rfl) (by kernel_rfl), integ_run _ _ _ _ h]
  rfl
set_option maxRecDepth 100000 in
theorem Floor_real (x : Nat) (w : World) (h : fnan x = false) : Calls Try.prog 42 #[.float .f64 x] w fun e w' => e = .returned (.float .f64 (itg .down x)) ∧ w = w' := by
  have h1 := archFloor_run x w h
  obtain ⟨r, hr⟩ : ∃ r, itg .down x = r := ⟨_, rfl⟩
  rw [hr] at h1 ⊢
  clear h hr
  go_enter Try.func42, Try.ntmps42
  go_wp2
  go_ret
  exact ⟨rfl, rfl⟩
theorem archFloor_nan (x : Nat) (w : World) (hx : x < 18446744073709551616) (h : fnan x = true) : ∃ y n, (callFunc 70 #[.float .f64 x]).run Try.prog w = .ok (.value (.float .f64 y)) (w.drewN n) ∧ fnan y = true ∧ y < 18446744073709551616 := by
  obtain ⟨y, n, h1, h2⟩ := integ_nan "math.archFloor" .down x w hx h
  refine ⟨y, n, ?_, h2⟩
  rw [run_callFunc_extern (e := Extern.MathFloor.toIntegral "math.archFloor" .down) Try.func70 (by kernel_rfl) (by kernel_rfl) (by kernel_rfl) (by kernel_rfl), h1]
  rfl
set_option maxRecDepth 100000 in
theorem Floor_nan (x : Nat) (w : World) (hx : x < 18446744073709551616) (h : fnan x = true) : ∃ y n, fnan y = true ∧ y < 18446744073709551616 ∧ Calls Try.prog 42 #[.float .f64 x] w fun e w' => e = .returned (.float .f64 y) ∧ w' = w.drewN n := by
  obtain ⟨y, n, h1, h2, h3⟩ := archFloor_nan x w hx h
  refine ⟨y, n, h2, h3, ?_⟩
  clear h h2 h3 hx
  go_enter Try.func42, Try.ntmps42
  go_wp2
  go_ret
  exact ⟨rfl, rfl⟩
/-- Floor, as it is told. -/
def tFloor (x : Nat) : Nat := if fnan x = true then 9221120237041090560 else cn (itg .down x)
theorem Floor_any (x : Nat) (w : World) (hx : x < 18446744073709551616) : Calls Try.prog 42 #[.float .f64 x] w fun e w' => ∃ y, e = .returned (.float .f64 y) ∧ Hid (cn y = tFloor x) ∧ ∃ n, w' = w.drewN n := by
  unfold tFloor
  cases h : fnan x
  · rw [if_neg (by simp)]
    exact (Floor_real x w h).mono fun e w' ⟨h1, h2⟩ => ⟨_, h1, Lib.hid rfl, 0, by subst h2; rfl⟩
  · rw [if_pos rfl]
    obtain ⟨y, n, h1, h2, h3⟩ := Floor_nan x w hx h
    exact h3.mono fun e w' ⟨h4, h5⟩ => ⟨y, h4, Lib.hid (by unfold cn; rw [if_pos h1]), n, h5⟩
theorem nFloor_any (x : Nat) (w : World) (hx : x < 18446744073709551616) : Calls Try.prog 38 #[.float .f64 x] w fun e w' => e = .returned (.float .f64 (tFloor x)) ∧ ∃ n, w' = w.drewN n := by
  have C1 := Lib.hid (fun W => Floor_any x W hx)
  have C2 := Lib.hid (fun y W => told_any y W)
  clear hx
  go_enter Try.func38, Try.ntmps38
  go_wp2_with fail
  refine (C1.out _).mono ?_
  rintro e w' ⟨y, rfl, hy, n, rfl⟩
  go_wp2_with fail
  refine (C2.out _ _).mono ?_
  rintro e w' ⟨rfl, rfl⟩
  have HF := Lib.hid (show cn y = tFloor x from hy.out)
  go_wp2
  go_ret
  exact ⟨congrArg (fun z => Ending.returned (.float .f64 z)) HF.out, n, rfl⟩
theorem archTrunc_run (x : Nat) (w : World) (h : fnan x = false) : (callFunc 80 #[.float .f64 x]).run Try.prog w = .ok (.value (.float .f64 (itg .zero x))) w := by
  rw [run_callFunc_extern (e := Extern.MathFloor.toIntegral "math.archTrunc" .zero) Try.func80 (by kernel_rfl) (by kernel_rfl) (by kernel_rfl) (by kernel_rfl), integ_run _ _ _ _ h]
  rfl
set_option maxRecDepth 100000 in
theorem Trunc_real (x : Nat) (w : World) (h : fnan x = false) : Calls Try.prog 65 #[.float .f64 x] w fun e w' => e = .returned (.float .f64 (itg .zero x)) ∧ w = w' := by
  have h1 := archTrunc_run x w h
  obtain ⟨r, hr⟩ : ∃ r, itg .zero x = r := ⟨_, rfl⟩
  rw [hr] at h1 ⊢
  clear h hr
  go_enter Try.func65, Try.ntmps65
  go_wp2
  go_ret
  exact ⟨rfl, rfl⟩
end Go.Proofs.Ytbinpcoaghpcdaa
