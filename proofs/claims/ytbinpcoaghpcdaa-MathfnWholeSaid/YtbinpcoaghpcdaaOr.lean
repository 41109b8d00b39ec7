/-
  Plain facts on the bits of two words.
-/
import Derived.Test.YtbinpcoaghpcdaaPlain
import Derived.Laws.BitsAllLaws
import Derived.WalkKit
namespace Go.Proofs.Ytbinpcoaghpcdaa
open Go.RowKit
theorem or_u32 (p q : Nat) (hp : p < 4294967296) (hq : q < 4294967296) : bits BinOp.or IntKind.u32 (p : Int) (q : Int) = ((p ||| q : Nat) : Int) := by
  show IntKind.u32.wrap ((BitVec.ofInt 32 (p : Int) ||| BitVec.ofInt 32 (q : Int)).toNat : Int) = _
  have e1 : (BitVec.ofInt 32 (p : Int)).toNat = p := by rw [BitVec.ofInt_natCast, BitVec.toNat_ofNat]; exact Nat.mod_eq_of_lt (by omega)
  have e2 : (BitVec.ofInt 32 (q : Int)).toNat = q := by rw [BitVec.ofInt_natCast, BitVec.toNat_ofNat]; exact Nat.mod_eq_of_lt (by omega)
  have h : p ||| q < 4294967296 := Nat.or_lt_two_pow (n := 32) hp hq
  rw [BitVec.toNat_or, e1, e2, IntKind.wrap_u32]
  omega
theorem or_u64 (p q : Nat) (hp : p < 18446744073709551616) (hq : q < 18446744073709551616) : bits BinOp.or IntKind.u64 (p : Int) (q : Int) = ((p ||| q : Nat) : Int) := by
  show IntKind.u64.wrap ((BitVec.ofInt 64 (p : Int) ||| BitVec.ofInt 64 (q : Int)).toNat : Int) = _
  have e1 : (BitVec.ofInt 64 (p : Int)).toNat = p := by rw [BitVec.ofInt_natCast, BitVec.toNat_ofNat]; exact Nat.mod_eq_of_lt (by omega)
  have e2 : (BitVec.ofInt 64 (q : Int)).toNat = q := by rw [BitVec.ofInt_natCast, BitVec.toNat_ofNat]; exact Nat.mod_eq_of_lt (by omega)
  have h : p ||| q < 18446744073709551616 := Nat.or_lt_two_pow (n := 64) hp hq
  rw [BitVec.toNat_or, e1, e2, IntKind.wrap_u64]
  omega
end Go.Proofs.Ytbinpcoaghpcdaa
