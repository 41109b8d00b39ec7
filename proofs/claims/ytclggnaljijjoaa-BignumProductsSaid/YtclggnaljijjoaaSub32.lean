/-
  Contract of Sub32.
-/
import Derived.Test.YtclggnaljijjoaaRadd
import Derived.Laws.BitsAllLaws
namespace Go.Proofs.Ytclggnaljijjoaa
open Go.RowKit
theorem top_bit (n : Nat) (h : n < 4294967296) : n.testBit 31 = decide (2147483648 ≤ n) := by
  rw [Nat.testBit_eq_decide_div_mod_eq]
  exact decide_eq_decide.2 (by rw [show 2 ^ 31 = 2147483648 from rfl]; omega)
theorem top_div (n : Nat) (h : n < 4294967296) : n / 2147483648 = if n.testBit 31 = true then 1 else 0 := by
  rw [top_bit n h]
  by_cases h1 : 2147483648 ≤ n
  · rw [if_pos (by simpa using h1)]; omega
  · rw [if_neg (by simpa using h1)]; omega
theorem borrow_bits (x y c D : Nat) (hx : x < 4294967296) (hy : y < 4294967296) (hc : c ≤ 1) (hD : (x + 4294967296 * 2 - y - c) % 4294967296 = D) :
    bits BinOp.or IntKind.u32 (bits BinOp.and IntKind.u32 (bits BinOp.xor IntKind.u32 IntKind.u32.max (x : Int)) (y : Int)) (bits BinOp.and IntKind.u32 (bits BinOp.xor IntKind.u32 IntKind.u32.max (bits BinOp.xor IntKind.u32 (x : Int) (y : Int))) (D : Int)) / 2147483648 = ((if x < y + c then 1 else 0 : Nat) : Int) := by
  have hD2 : D < 4294967296 := by omega
  have hm : IntKind.u32.max = ((4294967295 : Nat) : Int) := rfl
  have p32 : (4294967296 : Nat) = 2 ^ 32 := rfl
  have a1 : 4294967295 ^^^ x < 4294967296 := by rw [p32]; exact Nat.xor_lt_two_pow (by omega) (by omega)
  have a2 : x ^^^ y < 4294967296 := by rw [p32]; exact Nat.xor_lt_two_pow (by omega) (by omega)
  have a3 : 4294967295 ^^^ (x ^^^ y) < 4294967296 := by rw [p32]; exact Nat.xor_lt_two_pow (by omega) (by omega)
  have a4 : (4294967295 ^^^ x) &&& y < 4294967296 := Nat.lt_of_le_of_lt Nat.and_le_right hy
  have a5 : (4294967295 ^^^ (x ^^^ y)) &&& D < 4294967296 := Nat.lt_of_le_of_lt Nat.and_le_right hD2
  have a6 : ((4294967295 ^^^ x) &&& y) ||| ((4294967295 ^^^ (x ^^^ y)) &&& D) < 4294967296 := by rw [p32] at *; exact Nat.or_lt_two_pow a4 a5
  rw [hm, u32_xor_nat _ _ (by omega) hx, u32_xor_nat _ _ hx hy, u32_xor_nat _ _ (by omega) a2, u32_and_nat _ _ a1 hy, u32_and_nat _ _ a3 hD2, u32_or_nat _ _ a4 a5]
  obtain ⟨n, hn⟩ : ∃ n, ((4294967295 ^^^ x) &&& y) ||| ((4294967295 ^^^ (x ^^^ y)) &&& D) = n := ⟨_, rfl⟩
  have hb : n.testBit 31 = ((!decide (2147483648 ≤ x) && decide (2147483648 ≤ y)) || ((decide (2147483648 ≤ x) == decide (2147483648 ≤ y)) && decide (2147483648 ≤ D))) := by
    rw [← hn, Nat.testBit_or, Nat.testBit_and, Nat.testBit_and, Nat.testBit_xor, Nat.testBit_xor, Nat.testBit_xor, top_bit x hx, top_bit y hy, top_bit D hD2, show Nat.testBit 4294967295 31 = true by decide]
    cases decide (2147483648 ≤ x) <;> cases decide (2147483648 ≤ y) <;> cases decide (2147483648 ≤ D) <;> rfl
  rw [hn] at a6 ⊢
  have h2 := top_div n a6
  have h3 : ((n : Nat) : Int) / 2147483648 = ((n / 2147483648 : Nat) : Int) := by omega
  rw [h3, h2, hb]
  clear hb h2 h3 a1 a2 a3 a4 a5 a6 hm p32 hn
  by_cases b1 : 2147483648 ≤ x <;> by_cases b2 : 2147483648 ≤ y <;> by_cases b3 : 2147483648 ≤ D <;> by_cases b4 : x < y + c <;> simp [b1, b2, b3, b4] <;> omega
theorem ret2_u32 {a b c d : Int} (h : a = c) (g : b = d) : Ending.returned (.tuple #[.int .u32 a, .int .u32 b]) = .returned (.tuple #[.int .u32 c, .int .u32 d]) := by rw [h, g]
theorem sub32_any (x y c : Nat) (w : World) (hx : x < 4294967296) (hy : y < 4294967296) (hc : c ≤ 1) :
    Calls Try.prog 47 #[.int .u32 x, .int .u32 y, .int .u32 c] w fun e w' => e = .returned (.tuple #[.int .u32 ((x + 4294967296 * 2 - y - c) % 4294967296 : Nat), .int .u32 ((if x < y + c then 1 else 0 : Nat) : Int)]) ∧ w = w' := by
  obtain ⟨D, hD⟩ : ∃ D : Nat, (x + 4294967296 * 2 - y - c) % 4294967296 = D := ⟨_, rfl⟩
  have hb := borrow_bits x y c D hx hy hc hD
  obtain ⟨r, hr⟩ : ∃ r : Nat, (if x < y + c then 1 else 0 : Nat) = r := ⟨_, rfl⟩
  rw [hr] at hb
  rw [hD, hr]
  have hd : ((x : Int) - (y : Int) - (c : Int)) % 4294967296 = (D : Int) := by omega
  have hsg : IntKind.u32.signed = false := rfl
  have HB := Lib.hid hb
  clear hx hy hc hD hr hb
  go_enter Try.func47, Try.ntmps47
  go_wp2
  go_ret2
  exact ⟨ret2_u32 (by omega) HB.out, rfl⟩
end Go.Proofs.Ytclggnaljijjoaa
