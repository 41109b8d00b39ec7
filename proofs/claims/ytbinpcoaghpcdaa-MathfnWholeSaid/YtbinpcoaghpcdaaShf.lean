/-
  The methods of two numbers that shift.
-/
import Derived.Test.YtbinpcoaghpcdaaU32
import Derived.Test.YtbinpcoaghpcdaaBin
import Derived.Test.YtbinpcoaghpcdaaLawN
import Derived.Test.YtbinpcoaghpcdaaRC
import Derived.Deep.RegionHeld3
import Derived.WideShapes
namespace Go.Proofs.Ytbinpcoaghpcdaa
open Go.RowKit
theorem kept {W w' : World} (h : Below W.heap.size W w') (a : Addr) (v : Value) (hc : W.cell? a = some v) : w'.cell? a = some v := by
  rw [← hc]
  refine h.cell ?_
  rcases Nat.lt_or_ge a.block W.heap.size with h' | h'
  · exact h'
  · simp [World.cell?, Array.getElem?_eq_none h'] at hc
end Go.Proofs.Ytbinpcoaghpcdaa
