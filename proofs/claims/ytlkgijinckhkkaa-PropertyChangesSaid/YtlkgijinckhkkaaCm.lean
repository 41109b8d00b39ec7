/-
  Compare of texts of units, of the program and of the reference.
-/
import GoSem.Core.Utf8
import Derived.Lib.Strings
import Derived.WalkKit
import Derived.WalkSpells
import Derived.WalkLawsBesides
import Derived.Deep.QuietTactic
import Derived.BigQuiet
import Derived.Laws.BitsAllLaws
import Derived.Lib.Hide
import Derived.Laws.BytesString
import Derived.Laws.Cells
import Derived.Deep.OwnRows
import Derived.Laws.CopyOwn
import Derived.Deep.AppendLies
import Derived.Lib.BitFns
import Derived.Lib.LaidTab
import Derived.Test.YtlkgijinckhkkaaProg
import Derived.Test.YtlkgijinckhkkaaShelf
import Derived.Test.YtlkgijinckhkkaaUs
namespace Go.Proofs.Ytlkgijinckhkkaa
open Go.RowKit
theorem and_even64 (x : Nat) (hx : x < 18446744073709551616) : x &&& 18446744073709551614 = x / 2 * 2 := by
  have h : x &&& 18446744073709551614 = (x >>> 1) <<< 1 := by
    apply Nat.eq_of_testBit_eq
    intro i
    rw [Nat.testBit_and, Nat.testBit_shiftLeft, Nat.testBit_shiftRight, show 18446744073709551614 = (2 ^ 63 - 1) <<< 1 from rfl, Nat.testBit_shiftLeft, Nat.testBit_two_pow_sub_one]
    by_cases h1 : 1 ≤ i
    · rw [show 1 + (i - 1) = i by omega]
      by_cases h2 : i - 1 < 63
      · simp [h1, h2]
      · have : x.testBit i = false := Nat.testBit_lt_two_pow (Nat.lt_of_lt_of_le hx (by
          have : 2 ^ 64 ≤ 2 ^ i := Nat.pow_le_pow_right (by omega) (by omega)
          simpa using this))
        simp [this]
    · simp [h1]
  rw [h, Nat.shiftLeft_eq, Nat.shiftRight_eq_div_pow]
theorem andNot_one (n : Nat) (hn : n ≤ 9223372036854775807) : bits BinOp.andNot IntKind.i64 (n : Int) 1 = 2 * ((n / 2 : Nat) : Int) := by
  show IntKind.i64.wrap ((BitVec.ofInt 64 (n : Int) &&& ~~~BitVec.ofInt 64 1).toNat : Int) = _
  have h1 : (BitVec.ofInt 64 1).toNat = 1 := by decide
  have h2 : (BitVec.ofInt 64 (n : Int)).toNat = n := by
    rw [BitVec.ofInt_natCast, BitVec.toNat_ofNat]; exact Nat.mod_eq_of_lt (by omega)
  rw [BitVec.toNat_and, BitVec.toNat_not, h2, h1, show 2 ^ 64 - 1 - 1 = 18446744073709551614 by decide, and_even64 n (by omega)]
  rw [IntKind.wrap_i64]
  omega
/-- A text without half a unit at its end. -/
def wh (s : ByteArray) : ByteArray := s.extract 0 (2 * ln s)
theorem wh_data (s : ByteArray) : (wh s).data.toList = bL (us s) := by
  unfold wh us
  rw [Lib.extract_data, bL_uL, ← Lib.size_eq]
  simp [ln]
theorem wh_size (s : ByteArray) : (wh s).size = 2 * ln s := by
  rw [Lib.size_eq, wh_data, bL_length, us_length]
theorem wh_eq (s : ByteArray) : wh s = ⟨(bL (us s)).toArray⟩ := by
  apply ByteArray.ext
  have := wh_data s
  simp [← this]
end Go.Proofs.Ytlkgijinckhkkaa
