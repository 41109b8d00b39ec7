/-
  Plain lemmas: powers, from the exponent's highest bit on.
-/
import Derived.Test.YtclggnaljijjoaaRsub
namespace Go.Proofs.Ytclggnaljijjoaa
theorem pow_le (b e n : Nat) (h : e ≤ n) (hl : lngB (b ^ e) = true) : lngB (b ^ n) = true := by
  cases hn : lngB (b ^ n)
  · rcases Nat.eq_zero_or_pos b with h0 | h0
    · subst h0
      rcases Nat.eq_zero_or_pos e with h1 | h1
      · subst h1
        have : lngB (0 ^ 0) = false := lng_small (by simp)
        rw [this] at hl; cases hl
      · rw [Nat.zero_pow h1, lng_small (by omega)] at hl; cases hl
    · have := lng_mono (Nat.pow_le_pow_right h0 h) hn
      rw [this] at hl; cases hl
  · rfl
theorem half_pow (b n q : Nat) : b ^ (n / 2 ^ (q + 1)) * b ^ (n / 2 ^ (q + 1)) * b ^ (n / 2 ^ q % 2) = b ^ (n / 2 ^ q) := by
  rw [← Nat.pow_add, ← Nat.pow_add]
  congr 1
  rw [Nat.pow_succ, ← Nat.div_div_eq_div_mul]
  omega
theorem sq_pow (b n q : Nat) : b ^ (n / 2 ^ (q + 1)) * b ^ (n / 2 ^ (q + 1)) = b ^ (n / 2 ^ (q + 1) + n / 2 ^ (q + 1)) := (Nat.pow_add ..).symm
theorem sq_le (n q : Nat) : n / 2 ^ (q + 1) + n / 2 ^ (q + 1) ≤ n := by
  have h1 : n / 2 ^ (q + 1) * 2 ^ (q + 1) ≤ n := Nat.div_mul_le_self n _
  have h2 : 2 ≤ 2 ^ (q + 1) := by rw [Nat.pow_succ]; have := Nat.two_pow_pos q; omega
  have h3 : n / 2 ^ (q + 1) * 2 ≤ n / 2 ^ (q + 1) * 2 ^ (q + 1) := Nat.mul_le_mul_left _ h2
  omega
end Go.Proofs.Ytclggnaljijjoaa
