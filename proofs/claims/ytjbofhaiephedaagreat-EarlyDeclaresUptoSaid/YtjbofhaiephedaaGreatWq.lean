/-
  Contracts of the program's plain text, of its sign, of Text and Shortest.
-/
import Derived.Deep.WholeRow
import Derived.Laws.Tables
import Derived.Laws.EntriesVeiled
import Derived.Lib.AppendIntMem
import Derived.Deep.RegionHeld3
import Derived.Laws.Closers25b
import Derived.ProofKit
import Derived.OpenShut
import Derived.SizedLaws
import Derived.Laws.BytesString
import Derived.Laws.Cells
import Derived.Deep.RegionWith
import Derived.BigRegion
import GoSem.Core.Utf8
import Derived.WalkKit
import Derived.WalkSpells
import Derived.WalkLawsBesides
import Derived.Deep.QuietTactic
import Derived.BigQuiet
import Derived.Lib.Hide
import Derived.Deep.OwnRows
import Derived.Laws.CopyOwn
import Derived.Deep.AppendLies
import Derived.Lib.BitFns
import Derived.Lib.Strings
import Derived.Laws.BitsAllLaws
import Derived.Lib.LaidTab
import Derived.Laws.FloatArith
import Derived.Laws.Externs
import Ieee.Arith
import GoSem.Core.Float
import Derived.Lib.ItoaNum
import Derived.Deep.DeepCutAuto
import Derived.Lib.SlTrimSet
import Derived.Lib.Case
import Derived.Test.YtjbofhaiephedaaGreatProg
import Derived.Test.YtjbofhaiephedaaGreatRows
import Derived.Test.YtjbofhaiephedaaGreatShelf
import Derived.Test.YtjbofhaiephedaaGreatBE
import Derived.Test.YtjbofhaiephedaaGreatSt
import Derived.Test.YtjbofhaiephedaaGreatUs
namespace Go.Proofs.YtjbofhaiephedaaGreat
open Go.RowKit
/-- A text of units below 256. -/
def wdS (L : List Nat) : ByteArray := ⟨(bL L).toArray⟩
theorem vwide_any (L : List Nat) (w : World) (hL : ∀ c ∈ L, c < 256) (hl : L.length ≤ 100000) : Calls Tryz.prog 22 #[.string (strOf L)] w fun e w' => e = .returned (.string (wdS L)) ∧ Below w.heap.size w w' := by
  have h := rwide_any (strOf L) w (by rw [strOf_size]; omega)
  rw [show wdL (strOf L) = bl (strOf L) from bl_data _, bl_strOf hL] at h
  exact h
end Go.Proofs.YtjbofhaiephedaaGreat
