/-
  Doubles of whole numbers: what is lost below the highest 64 bits counts as one bit; a double scaled.
-/
import Derived.Test.YtacmbbjmcdbcnaaNear
namespace Go.Proofs.Ytacmbbjmcdbcnaa
/-- The highest bits of a number, the lowest of them 1 if anything is lost below. -/
def stk (N b : Nat) : Nat := if N % 2 ^ b = 0 then N / 2 ^ b else N / 2 ^ b / 2 * 2 + 1
theorem evn_stk (N b : Nat) : evn (stk N b) 11 = evn N (11 + b) := by
  have hP := Nat.two_pow_pos b
  have hr := Nat.mod_lt N hP
  have hN := Nat.div_add_mod N (2 ^ b)
  have hp : 2 ^ (11 + b) = 2048 * 2 ^ b := by rw [Nat.pow_add]
  have hdiv : N / 2 ^ (11 + b) = N / 2 ^ b / 2048 := by rw [hp, Nat.mul_comm, ← Nat.div_div_eq_div_mul]
  have hmod : N % 2 ^ (11 + b) = N / 2 ^ b % 2048 * 2 ^ b + N % 2 ^ b := by
    rw [hp, Nat.mul_comm 2048, Nat.mod_mul, Nat.mul_comm, Nat.add_comm]
  unfold evn stk
  rw [hdiv, hmod, hp]
  rw [show (2 : Nat) ^ 11 = 2048 from rfl]
  generalize 2 ^ b = P at *
  generalize N / P = H at *
  generalize N % P = r at *
  clear hN hdiv hmod hp
  have hh : H % 2048 < 2048 := Nat.mod_lt _ (by omega)
  have hW : (if r = 0 then H else H / 2 * 2 + 1) / 2048 = H / 2048 := by split <;> omega
  rw [hW]
  rcases Nat.lt_trichotomy (H % 2048) 1024 with h1 | h1 | h1
  · have h2 : (H % 2048 + 1) * P ≤ 1024 * P := Nat.mul_le_mul_right _ (by omega)
    rw [Nat.add_mul, Nat.one_mul] at h2
    have h3 : (if r = 0 then H else H / 2 * 2 + 1) % 2048 < 1024 := by split <;> omega
    rw [decide_eq_false (show ¬ 2048 < 2 * ((if r = 0 then H else H / 2 * 2 + 1) % 2048) by omega), decide_eq_false (show ¬ 2048 = 2 * ((if r = 0 then H else H / 2 * 2 + 1) % 2048) by omega)]
    rw [decide_eq_false (show ¬ 2048 * P < 2 * (H % 2048 * P + r) by omega), decide_eq_false (show ¬ 2048 * P = 2 * (H % 2048 * P + r) by omega)]
  · rw [h1]
    by_cases h0 : r = 0
    · subst h0
      rw [if_pos rfl, h1]
      rw [decide_eq_false (show ¬ 2048 < 2 * 1024 by omega), decide_eq_true (show 2048 = 2 * 1024 by omega), decide_eq_false (show ¬ 2048 * P < 2 * (1024 * P + 0) by omega), decide_eq_true (show 2048 * P = 2 * (1024 * P + 0) by omega)]
    · rw [if_neg h0, decide_eq_true (show 2048 < 2 * ((H / 2 * 2 + 1) % 2048) by omega), decide_eq_true (show 2048 * P < 2 * (1024 * P + r) by omega)]
      rfl
  · have h2 : 1025 * P ≤ H % 2048 * P := Nat.mul_le_mul_right _ (by omega)
    have h3 : 1024 < (if r = 0 then H else H / 2 * 2 + 1) % 2048 := by split <;> omega
    rw [decide_eq_true (show 2048 < 2 * ((if r = 0 then H else H / 2 * 2 + 1) % 2048) by omega), decide_eq_true (show 2048 * P < 2 * (H % 2048 * P + r) by omega)]
    rfl
/-- A double times a power of 2, as its word has it. -/
def scl (x b : Nat) : Nat := if x / 4503599627370496 + b < 2047 then x + b * 4503599627370496 else 9218868437227405312
theorem evn_range {N L : Nat} (h1 : 2 ^ L ≤ N) (h2 : N < 2 ^ (L + 1)) (hL : 52 ≤ L) : 4503599627370496 ≤ evn N (L - 52) ∧ evn N (L - 52) ≤ 9007199254740992 := by
  have e1 : 4503599627370496 ≤ N / 2 ^ (L - 52) := by
    rw [Nat.le_div_iff_mul_le (Nat.two_pow_pos _), show 4503599627370496 = 2 ^ 52 from rfl, ← Nat.pow_add, show 52 + (L - 52) = L by omega]
    exact h1
  have e2 : N / 2 ^ (L - 52) < 9007199254740992 := by
    rw [Nat.div_lt_iff_lt_mul (Nat.two_pow_pos _), show 9007199254740992 = 2 ^ 53 from rfl, ← Nat.pow_add, show 53 + (L - 52) = L + 1 by omega]
    exact h2
  unfold evn
  have : ∀ c : Bool, c.toNat ≤ 1 := by decide
  have := this (decide (2 ^ (L - 52) < 2 * (N % 2 ^ (L - 52))) || (decide (2 ^ (L - 52) = 2 * (N % 2 ^ (L - 52))) && decide (N / 2 ^ (L - 52) % 2 = 1)))
  omega
theorem stk_range {N b : Nat} (h1 : 2 ^ (63 + b) ≤ N) (h2 : N < 2 ^ (63 + b + 1)) : 2 ^ 63 ≤ stk N b ∧ stk N b < 2 ^ 64 := by
  have e1 : 2 ^ 63 ≤ N / 2 ^ b := by
    rw [Nat.le_div_iff_mul_le (Nat.two_pow_pos _), ← Nat.pow_add]
    exact h1
  have e2 : N / 2 ^ b < 2 ^ 64 := by
    rw [Nat.div_lt_iff_lt_mul (Nat.two_pow_pos _), ← Nat.pow_add, show 64 + b = 63 + b + 1 by omega]
    exact h2
  unfold stk
  rw [show (2 : Nat) ^ 63 = 9223372036854775808 from rfl] at *
  rw [show (2 : Nat) ^ 64 = 18446744073709551616 from rfl] at *
  split <;> omega
/-- A great number: its highest 64 bits, rounded and scaled. -/
theorem fl_stk {N b : Nat} (h1 : 2 ^ (63 + b) ≤ N) (h2 : N < 2 ^ (63 + b + 1)) : fl N = scl (fl (stk N b)) b := by
  obtain ⟨s1, s2⟩ := stk_range h1 h2
  have f1 := fl_high h1 h2 (by omega)
  have f2 := fl_high s1 s2 (by omega)
  obtain ⟨r1, r2⟩ := evn_range s1 s2 (by omega)
  rw [show 63 + b - 52 = 11 + b by omega] at f1
  rw [show 63 - 52 = 11 from rfl, evn_stk] at f2 r1 r2
  rw [f1, f2]
  generalize evn N (11 + b) = v at *
  clear f1 f2 h1 h2 s1 s2
  unfold scl
  split <;> omega
/-- A number of more than 53 bits that is rounded first. -/
theorem fl_cut {N c : Nat} (h1 : 2 ^ (52 + c) ≤ N) (h2 : N < 2 ^ (52 + c + 1)) : fl N = scl (fl (evn N c)) c := by
  have f1 := fl_high h1 h2 (by omega)
  obtain ⟨r1, r2⟩ := evn_range h1 h2 (by omega)
  rw [show 52 + c - 52 = c by omega] at f1 r1 r2
  rw [f1]
  generalize evn N c = v at *
  have hv : fl v = 1074 * 4503599627370496 + v := by
    rcases Nat.lt_or_ge v 9007199254740992 with h | h
    · have := fl_low (N := v) (L := 52) r1 h (by omega)
      rw [Nat.sub_self, Nat.pow_zero, Nat.mul_one] at this
      exact this
    · have e : v = 9007199254740992 := by omega
      subst e
      rw [fl_high (N := 9007199254740992) (L := 53) (by decide) (by decide) (by decide)]
      decide
  rw [hv]
  clear f1 hv h1 h2
  unfold scl
  split <;> omega
theorem fl_top {N : Nat} (K : Nat) (hK : K = 1024) (h : 2 ^ K ≤ N) : fl N = 9218868437227405312 := by
  have h0 : 0 < N := Nat.lt_of_lt_of_le (Nat.two_pow_pos K) h
  obtain ⟨a1, a2⟩ := log2_two N h0
  have hL : 1024 ≤ N.log2 := by
    have : 2 ^ K < 2 ^ (N.log2 + 1) := Nat.lt_of_le_of_lt h a2
    have := (Nat.pow_lt_pow_iff_right (a := 2) (by omega)).1 this
    omega
  obtain ⟨r1, r2⟩ := evn_range a1 a2 (by omega)
  rw [fl_high a1 a2 (by omega)]
  generalize N.log2 = L at *
  omega
theorem scl_zero {X : Nat} (h : X < 9218868437227405312) : scl X 0 = X := by
  unfold scl
  split <;> omega
/-- One times a double. -/
theorem one_mul {y : Nat} (h1 : 4503599627370496 ≤ y) (h2 : y < 9218868437227405312) : Ieee.double.mul 4607182418800017408 y = some y := by
  have e1 : Ieee.double.signWeight = 9223372036854775808 := by decide
  have e2 : Ieee.double.binade = 4503599627370496 := by decide
  have e3 : Ieee.double.infRung = 9218868437227405312 := by decide
  have e4 : Ieee.double.leastPlace = -1074 := by decide
  have e5 : Ieee.double.fractionBits = 52 := rfl
  have r1 : Ieee.double.read 4607182418800017408 = .number false 4503599627370496 (-52) := by decide
  have r2 : Ieee.double.read y = .number false (4503599627370496 + y % 4503599627370496) (-1074 + ((y / 4503599627370496 - 1 : Nat) : Int)) := by
    unfold Ieee.Format.read
    rw [e1, e2, e3, e4]
    have q1 : y % 9223372036854775808 = y := Nat.mod_eq_of_lt (by omega)
    have q2 : y / 9223372036854775808 % 2 = 0 := by omega
    simp only [q1, q2]
    rw [if_neg (by omega), if_pos h2]
    rfl
  unfold Ieee.Format.mul
  rw [r1, r2]
  show some (Ieee.double.nearest false (4503599627370496 * (4503599627370496 + y % 4503599627370496)) (-52 + (-1074 + ((y / 4503599627370496 - 1 : Nat) : Int)))) = _
  have ht : y % 4503599627370496 < 4503599627370496 := Nat.mod_lt _ (by omega)
  have hq : y / 4503599627370496 < 2047 := by omega
  have hy := Nat.div_add_mod y 4503599627370496
  have hq1 : 1 ≤ y / 4503599627370496 := by omega
  generalize y % 4503599627370496 = t at *
  generalize y / 4503599627370496 = q at *
  have hlog : (4503599627370496 * (4503599627370496 + t)).log2 = 104 := by
    refine log2_of ?_ ?_
    · rw [show (2 : Nat) ^ 104 = 4503599627370496 * 4503599627370496 from rfl]; omega
    · rw [show (2 : Nat) ^ (104 + 1) = 4503599627370496 * 9007199254740992 from rfl]; omega
  unfold Ieee.Format.nearest
  rw [if_neg (by omega), e2, e3, e4, e5, hlog]
  have e6 : max (-52 + (-1074 + ((q - 1 : Nat) : Int)) + ((104 : Nat) : Int) - ((52 : Nat) : Int)) (-1074) = (q : Int) - 1075 := by omega
  rw [e6]
  dsimp only
  have q1 : (-52 + (-1074 + ((q - 1 : Nat) : Int)) - ((q : Int) - 1075)).toNat = 0 := by omega
  have q2 : ((q : Int) - 1075 - (-52 + (-1074 + ((q - 1 : Nat) : Int)))).toNat = 52 := by omega
  have q3 : ((q : Int) - 1075 - -1074).toNat = q - 1 := by omega
  rw [q1, q2, q3, Nat.shiftLeft_zero, cut_evn _ _ (by rw [hlog]; omega), Nat.mul_comm 4503599627370496]
  have hev := evn_exact (4503599627370496 + t) 52
  rw [show (2 : Nat) ^ 52 = 4503599627370496 from rfl] at hev
  rw [hev, word_pos, Nat.min_eq_left (by omega)]
  exact congrArg some (by omega)
end Go.Proofs.Ytacmbbjmcdbcnaa
