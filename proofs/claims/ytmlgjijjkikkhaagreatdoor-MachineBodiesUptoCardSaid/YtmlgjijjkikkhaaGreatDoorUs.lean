/-
  Plain lemmas on texts: the units of a list of bytes and the bytes of a list of units. No program in it. Contracts of the small functions on one unit of a text: its length, a unit at a place, a unit written. Contracts of the reference's small functions on owned bytes: a unit put behind bytes. Contracts of the classes of units: of the program and of the reference. Owned bytes turned into a string; Wide and Make of the program and of the reference. Contracts of the program's and the reference's Wide: a text of bytes, each a unit (at most 2^45 bytes). Contracts of Make, Units and Unit of the program and of the reference. Contracts of Unit, of the law's comparison of units, and of the law UstrUnits (texts and lists of at most 2^45 bytes and units). Contracts of the program's and the reference's Slice: any part of any text; and of the law UstrParts. Contracts of Trim of the program and of the reference, and of the law UstrLetters (a text of at most 2^45 bytes).
-/
import Derived.Test.YtmlgjijjkikkhaaGreatDoorBA
import GoSem.Core.Utf8
import Derived.Lib.Strings
import Derived.WalkKit
import Derived.WalkSpells
import Derived.WalkLawsBesides
import Derived.Deep.QuietTactic
import Derived.BigQuiet
import Derived.Laws.BitsAllLaws
import Derived.Lib.Hide
import Derived.Laws.BytesString
import Derived.Laws.Cells
import Derived.Deep.OwnRows
import Derived.Laws.CopyOwn
import Derived.Deep.AppendLies
import Derived.Lib.BitFns
import Derived.Lib.LaidTab
import Derived.Test.YtmlgjijjkikkhaaGreatDoorProg
import Derived.Test.YtmlgjijjkikkhaaGreatDoorShelf
namespace Go.Proofs.YtmlgjijjkikkhaaGreatDoor

/-! ### of a Go string -/
/-- How many. -/
def ln (s : ByteArray) : Nat := s.size / 2
theorem ln_le (s : ByteArray) : 2 * ln s ≤ s.size := by unfold ln; omega
end Go.Proofs.YtmlgjijjkikkhaaGreatDoor
namespace Go.Proofs.YtmlgjijjkikkhaaGreatDoor
open Go.RowKit
theorem ln_int (s : ByteArray) : (s.size : Int) / 2 = (ln s : Int) := by unfold ln; omega
theorem len_any (s : ByteArray) (w : World) (hs : s.size ≤ maxLen) : Calls Tryz.prog 144 #[.string s] w fun e w' => e = .returned (.int .i64 (ln s)) ∧ w = w' := by
  unfold maxLen at hs
  have hm : (s.size : Int) ≤ 9223372036854775807 := by omega
  go_enter Tryz.func144, Tryz.ntmps144
  go_wp2
  go_ret
  exact ⟨by rw [← ln_int]; rfl, rfl⟩
end Go.Proofs.YtmlgjijjkikkhaaGreatDoor
namespace Go.Proofs.YtmlgjijjkikkhaaGreatDoor
open Go.RowKit
/-- The slice of bytes v is the call's own (from block B on) and holds the bytes l. -/
abbrev Own (B : Nat) (l : List UInt8) (v : Value) (w : World) : Prop := w.ownsRow B 5 1 v l.length (Lib.byteCells l)
theorem Own.nil (B : Nat) (w : World) : Own B [] (.slice none 0 0) w := World.ownsRow_nil _ _ _ _
end Go.Proofs.YtmlgjijjkikkhaaGreatDoor
namespace Go.Proofs.YtmlgjijjkikkhaaGreatDoor
open Go.RowKit
def spB (u : Int) : Bool := u == 9 || u == 11 || u == 12 || u == 32 || u == 160 || u == 5760 || u == 6158 || u == 8239 || u == 8287 || u == 12288 || u == 65279 || (decide (8192 ≤ u) && decide (u ≤ 8202))
def enB (u : Int) : Bool := u == 10 || u == 13 || u == 8232 || u == 8233
def blB (u : Int) : Bool := spB u || enB u
def stB (u : Int) : Bool := (decide (97 ≤ u) && decide (u ≤ 122)) || (decide (65 ≤ u) && decide (u ≤ 90)) || u == 36 || u == 95 || (decide (128 ≤ u) && !(blB u))
def ptB (u : Int) : Bool := stB u || (decide (48 ≤ u) && decide (u ≤ 57))
end Go.Proofs.YtmlgjijjkikkhaaGreatDoor
namespace Go.Proofs.YtmlgjijjkikkhaaGreatDoor
open Go.RowKit
end Go.Proofs.YtmlgjijjkikkhaaGreatDoor
namespace Go.Proofs.YtmlgjijjkikkhaaGreatDoor
open Go.RowKit
end Go.Proofs.YtmlgjijjkikkhaaGreatDoor
namespace Go.Proofs.YtmlgjijjkikkhaaGreatDoor
open Go.RowKit
/-- The slice of units v is the call's own and holds the units l. -/
abbrev Own16 (B : Nat) (l : List Nat) (v : Value) (w : World) : Prop := w.ownsRow B 141 1 v l.length (l.map fun u => Value.int .u16 (u : Nat))
theorem Own16.nil (B : Nat) (w : World) : Own16 B [] (.slice none 0 0) w := World.ownsRow_nil _ _ _ _
end Go.Proofs.YtmlgjijjkikkhaaGreatDoor
namespace Go.Proofs.YtmlgjijjkikkhaaGreatDoor
open Go.RowKit
end Go.Proofs.YtmlgjijjkikkhaaGreatDoor
namespace Go.Proofs.YtmlgjijjkikkhaaGreatDoor
open Go.RowKit
/-- The units from f on, up to t. -/
def slS (s : ByteArray) (f t : Int) : ByteArray := if max f 0 < min t (ln s) then s.extract (2 * (max f 0).toNat) (2 * (min t (ln s)).toNat) else { data := #[] }
set_option maxHeartbeats 1000000 in
theorem slice_any (s : ByteArray) (f t : Int) (w : World) (hs : s.size ≤ maxLen) :
    Calls Tryz.prog 148 #[.string s, .int .i64 f, .int .i64 t] w fun e w' => e = .returned (.string (slS s f t)) ∧ w = w' := by
  have hl := ln_le s
  have hm : (s.size : Int) ≤ 9223372036854775807 := by unfold maxLen at hs; omega
  have c1 := fun W => len_any s W hs
  have hsl : slS s f t = if max f 0 < min t (ln s) then s.extract (2 * (max f 0).toNat) (2 * (min t (ln s)).toNat) else { data := #[] } := rfl
  have hm1 : 0 ≤ max f 0 := by omega
  have hn1 : min t (ln s) ≤ ln s := by omega
  have hl2 : 2 * ((ln s : Nat) : Int) ≤ (s.size : Int) := by omega
  obtain ⟨m, hm0⟩ : ∃ m : Int, max f 0 = m := ⟨_, rfl⟩
  obtain ⟨n, hn0⟩ : ∃ n : Int, min t (ln s) = n := ⟨_, rfl⟩
  rw [hm0, hn0] at hsl
  rw [hm0] at hm1
  rw [hn0] at hn1
  by_cases h : m < n
  · rw [if_pos h] at hsl
    have HS := Lib.hid hsl
    have k1 : 2 * m ≤ 2 * n := by omega
    have k2 : 2 * n ≤ (s.size : Int) := by omega
    have k3 : 0 ≤ 2 * m := by omega
    have k4 : 0 ≤ 2 * n := by omega
    have e1 : (2 * m).toNat = 2 * m.toNat := by omega
    have e2 : (2 * n).toNat = 2 * n.toNat := by omega
    clear hsl hl hs hl2 hn1
    go_enter Tryz.func148, Tryz.ntmps148
    go_wp2_with (go_at_call 144; refine (c1 _).mono ?_; rintro e w' ⟨rfl, rfl⟩)
    go_ret
    exact ⟨by rw [HS.out]; rfl, rfl⟩
  · rw [if_neg h] at hsl
    have HS := Lib.hid hsl
    clear hsl hl hs hl2 hn1
    go_enter Tryz.func148, Tryz.ntmps148
    go_wp2_with (go_at_call 144; refine (c1 _).mono ?_; rintro e w' ⟨rfl, rfl⟩)
    go_ret
    exact ⟨by rw [HS.out]; rfl, rfl⟩
end Go.Proofs.YtmlgjijjkikkhaaGreatDoor
namespace Go.Proofs.YtmlgjijjkikkhaaGreatDoor
open Go.RowKit
end Go.Proofs.YtmlgjijjkikkhaaGreatDoor
