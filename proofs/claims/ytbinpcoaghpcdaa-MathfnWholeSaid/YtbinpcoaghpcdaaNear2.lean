/-
  Doubles of whole numbers: what is lost below the highest 64 bits counts as one bit; a double scaled.
-/
import Derived.Test.YtbinpcoaghpcdaaNear
namespace Go.Proofs.Ytbinpcoaghpcdaa
/-- A double times a power of 2, as its word has it. -/
def scl (x b : Nat) : Nat := if x / 4503599627370496 + b < 2047 then x + b * 4503599627370496 else 9218868437227405312
theorem evn_range {N L : Nat} (h1 : 2 ^ L ≤ N) (h2 : N < 2 ^ (L + 1)) (hL : 52 ≤ L) : 4503599627370496 ≤ evn N (L - 52) ∧ evn N (L - 52) ≤ 9007199254740992 := by
  have e1 : 4503599627370496 ≤ N / 2 ^ (L - 52) := by
    rw [Nat.le_div_iff_mul_le (Nat.two_pow_pos _), show 4503599627370496 = 2 ^ 52 from rfl, ← Nat.pow_add, show 52 + (L - 52) = L by omega]
    exact h1
  have e2 : N / 2 ^ (L - 52) < 9007199254740992 := by
    rw [Nat.div_lt_iff_lt_mul (Nat.two_pow_pos _), show 9007199254740992 = 2 ^ 53 from rfl, ← Nat.pow_add, show 53 + (L - 52) = L + 1 by omega]
    exact h2
  unfold evn
  have : ∀ c : Bool, c.toNat ≤ 1 := by decide
  have := this (decide (2 ^ (L - 52) < 2 * (N % 2 ^ (L - 52))) || (decide (2 ^ (L - 52) = 2 * (N % 2 ^ (L - 52))) && decide (N / 2 ^ (L - 52) % 2 = 1)))
  omega
/-- One times a double. -/
theorem one_mul {y : Nat} (h1 : 4503599627370496 ≤ y) (h2 : y < 9218868437227405312) : Ieee.double.mul 4607182418800017408 y = some y := by
  have e1 : Ieee.double.signWeight = 9223372036854775808 := by decide
  have e2 : Ieee.double.binade = 4503599627370496 := by decide
  have e3 : Ieee.double.infRung = 9218868437227405312 := by decide
  have e4 : Ieee.double.leastPlace = -1074 := by decide
  have e5 : Ieee.double.fractionBits = 52 := rfl
  have r1 : Ieee.double.read 4607182418800017408 = .number false 4503599627370496 (-52) := by decide
  have r2 : Ieee.double.read y = .number false (4503599627370496 + y % 4503599627370496) (-1074 + ((y / 4503599627370496 - 1 : Nat) : Int)) := by
    unfold Ieee.Format.read
    rw [e1, e2, e3, e4]
    have q1 : y % 9223372036854775808 = y := Nat.mod_eq_of_lt (by omega)
    have q2 : y / 9223372036854775808 % 2 = 0 := by omega
    simp only [q1, q2]
    rw [if_neg (by omega), if_pos h2]
    rfl
  unfold Ieee.Format.mul
  rw [r1, r2]
  show some (Ieee.double.nearest false (4503599627370496 * (4503599627370496 + y % 4503599627370496)) (-52 + (-1074 + ((y / 4503599627370496 - 1 : Nat) : Int)))) = _
  have ht : y % 4503599627370496 < 4503599627370496 := Nat.mod_lt _ (by omega)
  have hq : y / 4503599627370496 < 2047 := by omega
  have hy := Nat.div_add_mod y 4503599627370496
  have hq1 : 1 ≤ y / 4503599627370496 := by omega
  generalize y % 4503599627370496 = t at *
  generalize y / 4503599627370496 = q at *
  have hlog : (4503599627370496 * (4503599627370496 + t)).log2 = 104 := by
    refine log2_of ?_ ?_
    · rw [show (2 : Nat) ^ 104 = 4503599627370496 * 4503599627370496 from rfl]; omega
    · rw [show (2 : Nat) ^ (104 + 1) = 4503599627370496 * 9007199254740992 from rfl]; omega
  unfold Ieee.Format.nearest
  rw [if_neg (by omega), e2, e3, e4, e5, hlog]
  have e6 : max (-52 + (-1074 + ((q - 1 : Nat) : Int)) + ((104 : Nat) : Int) - ((52 : Nat) : Int)) (-1074) = (q : Int) - 1075 := by omega
  rw [e6]
  dsimp only
  have q1 : (-52 + (-1074 + ((q - 1 : Nat) : Int)) - ((q : Int) - 1075)).toNat = 0 := by omega
  have q2 : ((q : Int) - 1075 - (-52 + (-1074 + ((q - 1 : Nat) : Int)))).toNat = 52 := by omega
  have q3 : ((q : Int) - 1075 - -1074).toNat = q - 1 := by omega
  rw [q1, q2, q3, Nat.shiftLeft_zero, cut_evn _ _ (by rw [hlog]; omega), Nat.mul_comm 4503599627370496]
  have hev := evn_exact (4503599627370496 + t) 52
  rw [show (2 : Nat) ^ 52 = 4503599627370496 from rfl] at hev
  rw [hev, word_pos, Nat.min_eq_left (by omega)]
  exact congrArg some (by omega)

end Go.Proofs.Ytbinpcoaghpcdaa
