/-
  What the card of BignumFloats needs: a world in which the listed table lies, for a witness; the table out of what is laid.
-/
import Derived.Test.YtclggnaljijjoaaDoorCards
import Derived.Test.YtclggnaljijjoaaDoorTie
import Derived.Test.YtclggnaljijjoaaDoorArgs
import Derived.Test.YtclggnaljijjoaaDoorTz
import Derived.ShutString
import Derived.Deep.DeepHandedRow
import Derived.Lib.LaidTab
import Derived.LaidMore
import Derived.LaidSub
import Derived.SevenTiedAt
namespace Go.Proofs.YtclggnaljijjoaaDoor
open Go.ChangeShapes Go.WideShapes Go.ChangeAt Go.RowKit
abbrev tabListF : List (String × DataW Unit) := [("math/bits.deBruijn64tab", Rows.laid_math_bits_deBruijn64tab)]
def putCellsF (l : List Value) : Obj → Obj
  | .cells _ t fz => .cells l.toArray t fz
  | o => o
def tzCells : List Value := tzTab.map fun n => Value.int .u8 n
/-- A world for a witness: the settled one; the table's block holds what its initialiser lays. -/
noncomputable def laidWorldF (os : Os) : World :=
  { World.holding Tryd.prog os ⟨#[], #[], []⟩ with heap := (World.holding Tryd.prog os ⟨#[], #[], []⟩).heap.modify 1 (putCellsF tzCells) }
set_option maxRecDepth 100000 in
theorem laid_metF (os : Os) (args : Array Value) : laidMet Tryd.prog tabListF ((laidWorldF os).forCall (fun _ _ => 0) ⟨#[], args, []⟩).memory :=
  laidMet_of_run' 8 (by kernel_rfl) (by kernel_rfl)
theorem tz_laid {W : World} (h : laidMetH Tryd.prog Rows.bignumFloatsRow.laid W) : TzTab W := by
  have h1 : laidMet Tryd.prog (("math/bits.deBruijn64tab", Lib.tabData .u8 tzTab) :: []) W := (laidMetH_iff.1 h).1
  have h2 : Lib.TabIs Tryd.prog W "math/bits.deBruijn64tab" .u8 tzTab :=
    Lib.tabIs_of_head (g := 1) (t := 87) (e := 5) (n := 64) (by kernel_rfl) (by kernel_rfl) Tryd.underlying87 Tryd.underlying5 (by kernel_rfl) (by kernel_rfl) h1
  intro i hi
  exact h2.cell (by kernel_rfl) i hi
end Go.Proofs.YtclggnaljijjoaaDoor
