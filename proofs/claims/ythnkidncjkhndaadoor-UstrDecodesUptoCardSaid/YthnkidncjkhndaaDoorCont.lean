/-
  Contracts of the reference's cont and point: the code point at a place.
-/
import Derived.Test.YthnkidncjkhndaaDoorRutf
import Derived.Test.YthnkidncjkhndaaDoorUtf
namespace Go.Proofs.YthnkidncjkhndaaDoor
open Go.RowKit
def bt (s : ByteArray) (i : Nat) : Nat := (s.get! i).toNat
theorem bt_lt (s : ByteArray) (i : Nat) : bt s i < 256 := UInt8.toNat_lt _
theorem bt_eq (s : ByteArray) (i : Nat) (h : i < s.size) : ((s[i]'h).toNat : Int) = (bt s i : Int) := by
  unfold bt; rw [Utf8W.get!_of_lt s i h]
def coB (s : ByteArray) (i : Nat) : Bool := decide (i < s.size) && decide (bt s i / 64 = 2)
set_option maxRecDepth 100000 in
theorem and_192 : ∀ x : Fin 256, ((bits BinOp.and IntKind.u8 ((x.val : Nat) : Int) 192) == 128) = decide (x.val / 64 = 2) := by decide
theorem and_192n (x : Nat) (hx : x < 256) : ((bits BinOp.and IntKind.u8 (x : Int) 192) == 128) = decide (x / 64 = 2) := and_192 ⟨x, hx⟩
set_option maxRecDepth 100000 in
theorem and_u8_63 : ∀ x : Fin 256, bits BinOp.and IntKind.u8 ((x.val : Nat) : Int) 63 = ((x.val % 64 : Nat) : Int) := by decide
theorem and_u8_63n (x : Nat) (hx : x < 256) : bits BinOp.and IntKind.u8 (x : Int) 63 = (x : Int) % 64 := and_u8_63 ⟨x, hx⟩
theorem and_u32_m (b k : Nat) (hb : b < 4294967296) (hk : 2 ^ k - 1 < 4294967296) : bits BinOp.and IntKind.u32 (b : Int) ((2 ^ k - 1 : Nat) : Int) = ((b % 2 ^ k : Nat) : Int) := by
  rw [u32_and_nat _ _ hb hk, Nat.and_two_pow_sub_one_eq_mod]
theorem or_u32_m (x k y : Nat) (hy : y < 2 ^ k) (hs : 2 ^ k * x + y < 4294967296) : bits BinOp.or IntKind.u32 ((2 ^ k * x : Nat) : Int) (y : Int) = ((2 ^ k * x + y : Nat) : Int) := or_u32 x k y hy hs
set_option maxRecDepth 100000 in
theorem cont_any (s : ByteArray) (i : Nat) (w : World) (hs : s.size ≤ maxLen) (b : Bool) (hb : coB s i = b) :
    Calls Tryd.prog 90 #[.string s, .int .i64 i] w fun e w' => e = .returned (.bool b) ∧ w = w' := by
  subst hb
  have hm : (s.size : Int) ≤ 9223372036854775807 := by unfold maxLen at hs; omega
  by_cases h : i < s.size
  · have h' : (i : Int) < (s.size : Int) := by omega
    have h0 : (0 : Int) ≤ (i : Int) := by omega
    have e1 := bt_eq s i h
    have e2 := and_192n (bt s i) (bt_lt s i)
    have HR := Lib.hid (show coB s i = decide (bt s i / 64 = 2) by simp [coB, h])
    clear hs
    go_enter Tryd.func90, Tryd.ntmps90
    go_wp2
    all_goals go_ret
    all_goals exact ⟨by rw [HR.out]; rfl, rfl⟩
  · have h' : ¬ ((i : Int) < (s.size : Int)) := by omega
    have HR := Lib.hid (show coB s i = false by simp [coB, h])
    clear hs
    go_enter Tryd.func90, Tryd.ntmps90
    go_wp2
    go_ret
    exact ⟨by rw [HR.out]; rfl, rfl⟩
end Go.Proofs.YthnkidncjkhndaaDoor
