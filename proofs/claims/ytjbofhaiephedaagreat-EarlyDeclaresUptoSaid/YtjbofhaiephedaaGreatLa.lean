/-
  What the tokens of a source are, on lists of units. No program in it.
-/
import GoSem.Core.Utf8
import Derived.Lib.Strings
import Derived.WalkKit
import Derived.WalkSpells
import Derived.WalkLawsBesides
import Derived.Deep.QuietTactic
import Derived.BigQuiet
import Derived.Laws.BitsAllLaws
import Derived.Lib.Hide
import Derived.Laws.BytesString
import Derived.Laws.Cells
import Derived.Deep.OwnRows
import Derived.Laws.CopyOwn
import Derived.Deep.AppendLies
import Derived.Lib.BitFns
import Derived.Lib.LaidTab
import Ieee.Arith
import GoSem.Core.Float
import Derived.Test.YtjbofhaiephedaaGreatProg
import Derived.Test.YtjbofhaiephedaaGreatShelf
import Derived.Test.YtjbofhaiephedaaGreatUs
namespace Go.Proofs.YtjbofhaiephedaaGreat
def stN (c : Nat) : Bool := stB ((c : Nat) : Int)
def ptN (c : Nat) : Bool := ptB ((c : Nat) : Int)
/-- The first unit; 0 where there is none. -/
def hd0 (l : List Nat) : Nat := l.headD 0
/-! ### Between tokens -/
/-! ### Escapes -/
/-- May a unit stand there in a name? b: as the first one. -/
def fitN (b : Bool) (c : Nat) : Bool := if b = true then stN c else ptN c
end Go.Proofs.YtjbofhaiephedaaGreat
