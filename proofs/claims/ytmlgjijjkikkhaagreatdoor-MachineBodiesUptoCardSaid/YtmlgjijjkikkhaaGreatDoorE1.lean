/-
  Values of the language as plain data: which may be; which are the same. No program in it.
-/
import Derived.Test.YtmlgjijjkikkhaaGreatDoorCp
import Derived.Laws.FloatArith
import Derived.Laws.Externs
import Derived.Deep.RegionWith
import Ieee.Arith
import GoSem.Core.Float
import GoSem.Core.Utf8
import Derived.WalkKit
import Derived.WalkSpells
import Derived.WalkLawsBesides
import Derived.Deep.QuietTactic
import Derived.BigQuiet
import Derived.Lib.Hide
import Derived.Deep.OwnRows
import Derived.Laws.CopyOwn
import Derived.Deep.AppendLies
import Derived.Lib.BitFns
import Derived.Lib.Strings
import Derived.Laws.BitsAllLaws
import Derived.Lib.LaidTab
import Derived.Lib.ItoaNum
import Derived.Deep.DeepCutAuto
import Derived.ProofKit
import Derived.OpenShut
import Derived.SizedLaws
import Derived.Laws.BytesString
import Derived.Laws.Cells
import Derived.BigRegion
import Derived.Test.YtmlgjijjkikkhaaGreatDoorProg
import Derived.Test.YtmlgjijjkikkhaaGreatDoorRows
import Derived.Test.YtmlgjijjkikkhaaGreatDoorShelf
namespace Go.Proofs.YtmlgjijjkikkhaaGreatDoor
open Go.RowKit
/-- A value: its kind, its truth, its number, its text, its object. -/
structure Val where
  vk : Int
  vb : Bool
  vn : Nat
  vs : ByteArray
  vo : Int
def valV (v : Val) : Value := .agg #[.int .i64 v.vk, .bool v.vb, .float .f64 v.vn, .string v.vs, .int .i64 v.vo]
def valU : Val := ⟨0, false, 0, ⟨#[]⟩, 0⟩
def valN : Val := ⟨1, false, 0, ⟨#[]⟩, 0⟩
def valB (b : Bool) : Val := ⟨2, b, 0, ⟨#[]⟩, 0⟩
def valF (n : Nat) : Val := ⟨3, false, n, ⟨#[]⟩, 0⟩
def valS (s : ByteArray) : Val := ⟨4, false, 0, s, 0⟩
def valO (o : Int) : Val := ⟨5, false, 0, ⟨#[]⟩, o⟩
/-- May a value be? -/
def mayB (v : Val) : Bool :=
  decide (0 ≤ v.vk) && decide (v.vk ≤ 5) && (!v.vb || v.vk == 2) && (v.vn == 0 || (v.vk == 3 && cn v.vn == v.vn)) &&
    (v.vs.toList.isEmpty || (v.vk == 4 && v.vs.size % 2 == 0)) && (v.vo == 0 || (v.vk == 5 && decide (0 < v.vo)))
theorem bytes_none {s : ByteArray} (h : s.toList.isEmpty = true) : s = ⟨#[]⟩ := by
  rw [ByteArray.toList_eq] at h
  obtain ⟨⟨l⟩⟩ := s
  cases l with
  | nil => rfl
  | cons a l => simp at h
def alikeV (x y : Val) : Bool := x.vb == y.vb && x.vs.toList == y.vs.toList && x.vo == y.vo
def bitsV (x y : Val) : Bool := x.vk == y.vk && alikeV x y && x.vn == y.vn
end Go.Proofs.YtmlgjijjkikkhaaGreatDoor
