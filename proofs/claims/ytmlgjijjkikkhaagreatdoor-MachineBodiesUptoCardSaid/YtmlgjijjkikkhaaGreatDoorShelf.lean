/-
  No shelf is laid at this seat.
-/
import Derived.Lib.MinMax
import Derived.Test.YtmlgjijjkikkhaaGreatDoorProg
import Derived.Test.YtmlgjijjkikkhaaGreatDoorRows
