/-
  Contracts of IsNaN and IsInf, and of Parts of both. Contracts of Parts of both. Doubles of whole numbers: what is lost below the highest 64 bits counts as one bit; a double scaled. Contracts of math.Inf and math.Ldexp, for doubles that stand for whole numbers. Contract of Float of the program. Contracts of math.Frexp and math.Ldexp, for finite floats above 0. Contracts of math.Ldexp (finite floats above 0, where the answer is a float) and of math.Mod. Contract of Near of the reference (at the power 0): of few bits, of none, of too many. Contract of Near of the reference (at the power 0): of many bits. Float of the reference.
-/
import Derived.Test.YtmlgjijjkikkhaaGreatDoorBC
import Derived.Test.YtmlgjijjkikkhaaGreatDoorBP
import Derived.Laws.FloatArith
import Derived.Laws.Externs
import Derived.Deep.RegionWith
import Ieee.Arith
import GoSem.Core.Float
import GoSem.Core.Utf8
import Derived.WalkKit
import Derived.WalkSpells
import Derived.WalkLawsBesides
import Derived.Deep.QuietTactic
import Derived.BigQuiet
import Derived.Lib.Hide
import Derived.Deep.OwnRows
import Derived.Laws.CopyOwn
import Derived.Deep.AppendLies
import Derived.Lib.BitFns
import Derived.Lib.Strings
import Derived.Laws.BitsAllLaws
import Derived.Lib.LaidTab
import Derived.Lib.ItoaNum
import Derived.Deep.DeepCutAuto
import Derived.ProofKit
import Derived.OpenShut
import Derived.SizedLaws
import Derived.Laws.BytesString
import Derived.Laws.Cells
import Derived.BigRegion
import Derived.Test.YtmlgjijjkikkhaaGreatDoorProg
import Derived.Test.YtmlgjijjkikkhaaGreatDoorRows
import Derived.Test.YtmlgjijjkikkhaaGreatDoorShelf
namespace Go.Proofs.YtmlgjijjkikkhaaGreatDoor
open Go.RowKit
/-- Is a word a NaN's? An infinity's? -/
def fnan (x : Nat) : Bool := decide (9218868437227405312 < rung x)
def finf (x : Nat) : Bool := decide (rung x = 9218868437227405312)
theorem ord_self (x : Nat) : (FloatKind.f64.format.order x x != some .eq) = fnan x := by
  unfold fnan
  show (Ieee.double.order x x != some .eq) = _
  by_cases h : 9218868437227405312 < rung x
  · rw [order_nan (.inl h), decide_eq_true h]; rfl
  · rw [order_eq (by omega) (by omega), decide_eq_false h]
    have : compare (frank x) (frank x) = .eq := by simp [compare, compareOfLessAndEq]
    rw [this]; rfl
theorem isNaN_any (x : Nat) (w : World) : Calls Tryz.prog 66 #[.float .f64 x] w fun e w' => e = .returned (.bool (fnan x)) ∧ w = w' := by
  have h := ord_self x
  go_enter Tryz.func66, Tryz.ntmps66
  go_wp2
  go_ret
  exact ⟨by rw [← h]; rfl, rfl⟩
theorem f64bits_run (x : Nat) (w : World) : (callFunc 44 #[.float .f64 x]).run Tryz.prog w = .ok (.value (.int .u64 x)) w := by
  rw [run_callFunc_extern (e := Extern.MathFloatBits.float64bits) Tryz.func44 (by kernel_rfl) (by kernel_rfl) (by kernel_rfl) (by kernel_rfl)]
  rfl
theorem f64from_run (x : Nat) (w : World) : (callFunc 122 #[.int .u64 x]).run Tryz.prog w = .ok (.value (.float .f64 x)) w := by
  rw [run_callFunc_extern (e := Extern.MathFloatBits.float64frombits) Tryz.func122 (by kernel_rfl) (by kernel_rfl) (by kernel_rfl) (by kernel_rfl)]
  rfl
end Go.Proofs.YtmlgjijjkikkhaaGreatDoor
namespace Go.Proofs.YtmlgjijjkikkhaaGreatDoor
open Go.RowKit
/-- A float's whole number and power, as its bits have them. -/
def fwhole (x : Nat) : Nat := if x / 4503599627370496 = 0 then x % 4503599627370496 else x % 4503599627370496 + 4503599627370496
def fpow (x : Nat) : Int := if x / 4503599627370496 = 0 then -1074 else ((x / 4503599627370496 : Nat) : Int) - 1075
def PartsP (x : Nat) (w : World) (e : Ending) (w' : World) : Prop :=
  ∃ k m A n c, fwhole x = 2 ^ (k + 1) * m + 2 ^ k ∧ e = .returned (.tuple #[.slice A n c, .int .i64 (fpow x + (k : Nat)), .int .i64 0]) ∧ (n = (wds (2 * m + 1)).length ∧ n ≤ c ∧ RW w' w'.heap.size A (wds (2 * m + 1))) ∧ Below w.heap.size w w'
theorem fwhole_pos {x : Nat} (h0 : 0 < x) : 0 < fwhole x ∧ fwhole x < 9007199254740992 := by
  unfold fwhole
  split <;> omega
end Go.Proofs.YtmlgjijjkikkhaaGreatDoor
namespace Go.Proofs.YtmlgjijjkikkhaaGreatDoor
end Go.Proofs.YtmlgjijjkikkhaaGreatDoor
namespace Go.Proofs.YtmlgjijjkikkhaaGreatDoor
open Go.RowKit
end Go.Proofs.YtmlgjijjkikkhaaGreatDoor
namespace Go.Proofs.YtmlgjijjkikkhaaGreatDoor
open Go.RowKit
end Go.Proofs.YtmlgjijjkikkhaaGreatDoor
namespace Go.Proofs.YtmlgjijjkikkhaaGreatDoor
open Go.RowKit
end Go.Proofs.YtmlgjijjkikkhaaGreatDoor
namespace Go.Proofs.YtmlgjijjkikkhaaGreatDoor
open Go.RowKit
end Go.Proofs.YtmlgjijjkikkhaaGreatDoor
namespace Go.Proofs.YtmlgjijjkikkhaaGreatDoor
open Go.RowKit
end Go.Proofs.YtmlgjijjkikkhaaGreatDoor
namespace Go.Proofs.YtmlgjijjkikkhaaGreatDoor
open Go.RowKit

end Go.Proofs.YtmlgjijjkikkhaaGreatDoor
