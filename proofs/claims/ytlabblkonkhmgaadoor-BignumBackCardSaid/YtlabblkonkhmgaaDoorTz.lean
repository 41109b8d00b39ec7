/-
  Trailing zeros: the table of the library read by the product with its constant; contract of TrailingZeros64.
-/
import Derived.Test.YtlabblkonkhmgaaDoorOr
import Derived.Test.YtlabblkonkhmgaaDoorMem
import Derived.Lib.LaidTab
namespace Go.Proofs.YtlabblkonkhmgaaDoor
open Go.RowKit
/-- The lowest bit alone. -/
theorem low_bit {x k m : Nat} (hx : x = 2 ^ (k + 1) * m + 2 ^ k) (hl : x < 2 ^ 64) : x &&& (2 ^ 64 - x) = 2 ^ k := by
  have hp : 0 < 2 ^ k := Nat.two_pow_pos k
  have hk : 2 ^ k < 2 ^ (k + 1) := Nat.pow_lt_pow_right (by omega) (by omega)
  have hx0 : 0 < x := by omega
  apply Nat.eq_of_testBit_eq
  intro i
  have e1 : 2 ^ 64 - x = 2 ^ 64 - ((x - 1) + 1) := by omega
  rw [Nat.testBit_and, e1, Nat.testBit_two_pow_sub_succ (by omega), Nat.testBit_two_pow]
  have e2 : x - 1 = 2 ^ (k + 1) * m + (2 ^ k - 1) := by omega
  rw [e2, Nat.testBit_two_pow_mul_add m (by omega), hx, Nat.testBit_two_pow_mul_add m hk, Nat.testBit_two_pow, Nat.testBit_two_pow_sub_one]
  have hk64 : k < 64 := by
    have : 2 ^ k < 2 ^ 64 := by omega
    exact (Nat.pow_lt_pow_iff_right (a := 2) (by omega)).1 this
  by_cases h1 : i < k + 1
  · rw [if_pos h1, if_pos h1]
    by_cases h2 : k = i
    · subst h2; simp [hk64]
    · have h3 : i < k := by omega
      simp [h2, h3]
  · rw [if_neg h1, if_neg h1]
    have h2 : ¬ k = i := by omega
    simp [h2]
    intro h _
    exact h
def tzTab : List Int := [0, 1, 56, 2, 57, 49, 28, 3, 61, 58, 42, 50, 38, 29, 17, 4, 62, 47, 59, 36, 45, 43, 51, 22, 53, 39, 33, 30, 24, 18, 12, 5, 63, 55, 48, 27, 60, 41, 37, 16, 46, 35, 44, 21, 52, 32, 23, 11, 54, 26, 40, 15, 34, 20, 31, 10, 25, 14, 19, 9, 13, 8, 7, 6]
theorem tz64_all : ∀ k : Fin 64, 2 ^ k.val * 285870213051353865 % 18446744073709551616 / 288230376151711744 < 64 ∧ tzTab.getD (2 ^ k.val * 285870213051353865 % 18446744073709551616 / 288230376151711744) 0 = (k.val : Int) := by decide +kernel
theorem and_neg {x k m : Nat} (hx : x = 2 ^ (k + 1) * m + 2 ^ k) (hl : x < 18446744073709551616) : bits BinOp.and IntKind.u64 (x : Int) (IntKind.u64.wrap (-(x : Int))) = ((2 ^ k : Nat) : Int) := by
  have hx0 : 0 < x := by have := Nat.two_pow_pos k; omega
  have e : IntKind.u64.wrap (-(x : Int)) = ((18446744073709551616 - x : Nat) : Int) := by rw [IntKind.wrap_u64]; omega
  rw [e]
  have h := low_bit hx hl
  rw [show (2 : Nat) ^ 64 = 18446744073709551616 from rfl] at h
  rw [← h]
  generalize hy : 18446744073709551616 - x = y
  show IntKind.u64.wrap ((BitVec.ofInt 64 (x : Int) &&& BitVec.ofInt 64 (y : Int)).toNat : Int) = _
  have e1 : (BitVec.ofInt 64 (x : Int)).toNat = x := by rw [BitVec.ofInt_natCast, BitVec.toNat_ofNat]; exact Nat.mod_eq_of_lt (by omega)
  have e2 : (BitVec.ofInt 64 (y : Int)).toNat = y := by rw [BitVec.ofInt_natCast, BitVec.toNat_ofNat]; exact Nat.mod_eq_of_lt (by omega)
  have h2 : x &&& y ≤ x := Nat.and_le_left
  rw [BitVec.toNat_and, e1, e2, IntKind.wrap_u64]
  omega
/-- The table lies in its block. -/
def TzTab (W : World) : Prop := ∀ i, i < 64 → W.cell? ⟨1, i, none⟩ = some (.int .u8 (tzTab.getD i 0))
set_option maxRecDepth 100000 in
set_option maxHeartbeats 1000000 in
theorem tz_any (x k m : Nat) (w : World) (hx : x = 2 ^ (k + 1) * m + 2 ^ k) (hl : x < 18446744073709551616) (ht : TzTab w) :
    Calls Tryd.prog 40 #[.int .u64 x] w fun e w' => e = .returned (.int .i64 (k : Nat)) ∧ w = w' := by
  have hk64 : k < 64 := by
    have : 2 ^ k < 2 ^ 64 := by omega
    exact (Nat.pow_lt_pow_iff_right (a := 2) (by omega)).1 this
  have hx0 : 0 < x := by have := Nat.two_pow_pos k; omega
  have k1 := and_neg hx hl
  obtain ⟨t1, t2⟩ := tz64_all ⟨k, hk64⟩
  have hcell := ht _ t1
  rw [t2] at hcell
  simp only at t1 hcell
  have b0 : ((x : Int) == 0) = false := by rw [beq_eq_false_iff_ne]; omega
  obtain ⟨P, hP⟩ : ∃ P, 2 ^ k = P := ⟨_, rfl⟩
  rw [hP] at k1 t1 hcell
  obtain ⟨Q, hQ⟩ : ∃ Q, P * 285870213051353865 % 18446744073709551616 = Q := ⟨_, rfl⟩
  have k2 : IntKind.u64.wrap ((P : Int) * 285870213051353865) = (Q : Int) := by rw [IntKind.wrap_u64]; omega
  rw [hQ] at t1 hcell
  obtain ⟨i, hi⟩ : ∃ i, Q / 288230376151711744 = i := ⟨_, rfl⟩
  have k3 : (Q : Int) / 288230376151711744 = (i : Int) := by omega
  rw [hi] at t1 hcell
  have i1 : (i : Int) < 64 := by omega
  have i0 : (0 : Int) ≤ (i : Int) := by omega
  have hk1 : (k : Int) < 64 := by omega
  clear hx hl ht hx0 t2 hP hQ hi hk64
  go_enter Tryd.func40, Tryd.ntmps40
  go_wp2
  go_ret
  exact ⟨rfl, rfl⟩
end Go.Proofs.YtlabblkonkhmgaaDoor
