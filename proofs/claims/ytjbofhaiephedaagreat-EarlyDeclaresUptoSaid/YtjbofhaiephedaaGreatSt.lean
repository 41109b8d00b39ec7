/-
  Strings as lists of bytes: what the library's functions on prefixes, on cutsets and on small letters make of them. No program in it.
-/
import Derived.Lib.Strings
import Derived.Lib.SlTrimSet
import Derived.Lib.Case
import Derived.ProofKit
import Derived.OpenShut
import Derived.SizedLaws
import Derived.Laws.BytesString
import Derived.Laws.Cells
import Derived.Deep.RegionWith
import Derived.BigRegion
import GoSem.Core.Utf8
import Derived.WalkKit
import Derived.WalkSpells
import Derived.WalkLawsBesides
import Derived.Deep.QuietTactic
import Derived.BigQuiet
import Derived.Lib.Hide
import Derived.Deep.OwnRows
import Derived.Laws.CopyOwn
import Derived.Deep.AppendLies
import Derived.Lib.BitFns
import Derived.Laws.BitsAllLaws
import Derived.Lib.LaidTab
import Ieee.Arith
import GoSem.Core.Float
import Derived.Test.YtjbofhaiephedaaGreatProg
import Derived.Test.YtjbofhaiephedaaGreatRows
import Derived.Test.YtjbofhaiephedaaGreatShelf
import Derived.Test.YtjbofhaiephedaaGreatBB
namespace Go.Proofs.YtjbofhaiephedaaGreat
theorem bl_data (s : ByteArray) : s.data.toList.map UInt8.toNat = bl s := rfl
theorem strOf_size (l : List Nat) : (strOf l).size = l.length := by
  unfold strOf
  show (Array.size _) = _
  simp
end Go.Proofs.YtjbofhaiephedaaGreat
