/-
  Plain lemmas on a text as UTF-8: pairs, escapes, the bytes from a place on. No program in it.
-/
import Derived.Lib.RuneBytes
import GoSem.Core.Utf8
import Derived.Lib.Strings
import Derived.WalkKit
import Derived.WalkSpells
import Derived.WalkLawsBesides
import Derived.Deep.QuietTactic
import Derived.BigQuiet
import Derived.Laws.BitsAllLaws
import Derived.Lib.Hide
import Derived.Laws.BytesString
import Derived.Laws.Cells
import Derived.Deep.OwnRows
import Derived.Laws.CopyOwn
import Derived.Deep.AppendLies
import Derived.Lib.BitFns
import Derived.Lib.LaidTab
import Derived.Test.YtjbofhaiephedaaGreatProg
import Derived.Test.YtjbofhaiephedaaGreatShelf
import Derived.Test.YtjbofhaiephedaaGreatUs
namespace Go.Proofs.YtjbofhaiephedaaGreat
/-- A hexadecimal digit. -/
def hx (k : Nat) : UInt8 := if k < 10 then UInt8.ofNat (48 + k) else UInt8.ofNat (55 + k)
/-- The six bytes of a lone unit. -/
def esc (u : Nat) : List UInt8 := [92, 117, hx (u / 4096), hx (u / 256 % 16), hx (u / 16 % 16), hx (u % 16)]
def hiB (u : Nat) : Bool := decide (55296 ≤ u) && decide (u < 56320)
def loB (u : Nat) : Bool := decide (56320 ≤ u) && decide (u < 57344)
/-- Do the units at i and behind it make a pair? -/
def prB (s : ByteArray) (i : Nat) : Bool := decide (i + 1 < ln s) && (hiB (un s i) && loB (un s (i + 1)))
/-- A pair's code point. -/
def prP (s : ByteArray) (i : Nat) : Nat := 65536 + (un s i - 55296) * 1024 + (un s (i + 1) - 56320)
/-- The bytes of a unit that is in no pair. -/
def oneU (u : Nat) : List UInt8 := if hiB u || loB u then esc u else Lib.encodeRune u
/-- The bytes of the text from a place on. -/
def encF (s : ByteArray) : Nat → Nat → List UInt8
  | 0, _ => []
  | f + 1, i => if i < ln s then (if prB s i = true then Lib.encodeRune (prP s i) ++ encF s f (i + 2) else oneU (un s i) ++ encF s f (i + 1)) else []
def encS (s : ByteArray) : List UInt8 := encF s (ln s) 0
theorem encF_end (s : ByteArray) (f i : Nat) (h : ¬ i < ln s) : encF s f i = [] := by cases f <;> simp [encF, h]
theorem encF_pair (s : ByteArray) (f i : Nat) (h : i < ln s) (hp : prB s i = true) : encF s (f + 1) i = Lib.encodeRune (prP s i) ++ encF s f (i + 2) := by simp [encF, h, hp]
theorem encF_one (s : ByteArray) (f i : Nat) (h : i < ln s) (hp : prB s i = false) : encF s (f + 1) i = oneU (un s i) ++ encF s f (i + 1) := by simp [encF, h, hp]
theorem prB_parts (s : ByteArray) (i : Nat) (h : prB s i = true) : i + 1 < ln s ∧ 55296 ≤ un s i ∧ un s i < 56320 ∧ 56320 ≤ un s (i + 1) ∧ un s (i + 1) < 57344 := by
  simp [prB, hiB, loB] at h
  omega
theorem enc_le (r : Int) : (Lib.encodeRune r).length ≤ 4 := by
  have := Lib.runeCells_le r
  rw [Lib.runeCells_length] at this
  omega
theorem and_topE (u : Nat) (hu : u < 65536) : u &&& 64512 = u / 1024 * 1024 := by
  have h : u &&& 64512 = (u >>> 10) <<< 10 := by
    apply Nat.eq_of_testBit_eq
    intro i
    rw [Nat.testBit_and, Nat.testBit_shiftLeft, Nat.testBit_shiftRight, show 64512 = (2 ^ 6 - 1) <<< 10 from rfl, Nat.testBit_shiftLeft, Nat.testBit_two_pow_sub_one]
    by_cases h1 : 10 ≤ i
    · rw [show 10 + (i - 10) = i by omega]
      by_cases h2 : i - 10 < 6
      · simp [h1, h2]
      · have : u.testBit i = false := Nat.testBit_lt_two_pow (Nat.lt_of_lt_of_le hu (by
          have : 2 ^ 16 ≤ 2 ^ i := Nat.pow_le_pow_right (by omega) (by omega)
          simpa using this))
        simp [this]
    · simp [h1]
  rw [h, Nat.shiftLeft_eq, Nat.shiftRight_eq_div_pow]

end Go.Proofs.YtjbofhaiephedaaGreat
