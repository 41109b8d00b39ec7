/-
  Less, Equal and Same of numbers, of the program and of the reference; NaN as it is told.
-/
import Derived.Laws.FloatArith
import Derived.Laws.Externs
import Derived.Deep.RegionWith
import Ieee.Arith
import GoSem.Core.Float
import GoSem.Core.Utf8
import Derived.WalkKit
import Derived.WalkSpells
import Derived.WalkLawsBesides
import Derived.Deep.QuietTactic
import Derived.BigQuiet
import Derived.Lib.Hide
import Derived.Deep.OwnRows
import Derived.Laws.CopyOwn
import Derived.Deep.AppendLies
import Derived.Lib.BitFns
import Derived.Lib.Strings
import Derived.Laws.BitsAllLaws
import Derived.Lib.LaidTab
import Derived.Lib.ItoaNum
import Derived.Deep.DeepCutAuto
import Derived.ProofKit
import Derived.OpenShut
import Derived.SizedLaws
import Derived.Laws.BytesString
import Derived.Laws.Cells
import Derived.BigRegion
import Derived.Test.YtjbofhaiephedaaGreatProg
import Derived.Test.YtjbofhaiephedaaGreatRows
import Derived.Test.YtjbofhaiephedaaGreatShelf
import Derived.Test.YtjbofhaiephedaaGreatBF
namespace Go.Proofs.YtjbofhaiephedaaGreat
open Go.RowKit
theorem sgn_wrap (x : Nat) (hx : x < 18446744073709551616) : decide (wrap64 (x : Int) < 0) = fneg x := by
  unfold fneg wrap64
  by_cases h : x < 9223372036854775808
  · rw [decide_eq_false (by omega), Nat.div_eq_of_lt h]; rfl
  · rw [decide_eq_true (by omega), show x / 9223372036854775808 = 1 by omega]; rfl
theorem sgnbit_any (x : Nat) (w : World) (hx : x < 18446744073709551616) : Calls Tryz.prog 59 #[.float .f64 x] w fun e w' => e = .returned (.bool (fneg x)) ∧ w = w' := by
  have h1 := f64bits_run x w
  have h2 := Lib.hid (sgn_wrap x hx)
  clear hx
  go_enter Tryz.func59, Tryz.ntmps59
  go_wp2
  go_ret
  exact ⟨by rw [← h2.out]; rfl, rfl⟩
end Go.Proofs.YtjbofhaiephedaaGreat
