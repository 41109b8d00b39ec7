/-
  Doubles of whole numbers: the nearest one, sums and products that are exact.
-/
import Derived.Test.YtbinpcoaghpcdaaFlo
import GoSem.Core.Float
namespace Go.Proofs.Ytbinpcoaghpcdaa
theorem log2_of {N L : Nat} (h1 : 2 ^ L ≤ N) (h2 : N < 2 ^ (L + 1)) : N.log2 = L := by
  have h0 : N ≠ 0 := by have := Nat.two_pow_pos L; omega
  have a1 := (Nat.le_log2 h0).2 h1
  have a2 := (Nat.log2_lt h0).2 h2
  omega
theorem log2_two (N : Nat) (h : 0 < N) : 2 ^ N.log2 ≤ N ∧ N < 2 ^ (N.log2 + 1) := ⟨(Nat.le_log2 (by omega)).1 (Nat.le_refl _), (Nat.log2_lt (by omega)).1 (Nat.lt_succ_self _)⟩
/-- n / 2 ^ d, to the nearest, of two the even one. -/
def evn (n d : Nat) : Nat := n / 2 ^ d + (decide (2 ^ d < 2 * (n % 2 ^ d)) || (decide (2 ^ d = 2 * (n % 2 ^ d)) && decide (n / 2 ^ d % 2 = 1))).toNat
theorem cut_evn (n d : Nat) (h : d ≤ n.log2 + 2) : Ieee.Toward.even.cut false n d = evn n d := by
  unfold Ieee.Toward.cut evn
  rw [Nat.min_eq_left h, Nat.one_shiftLeft]
  rfl
theorem evn_exact (m d : Nat) : evn (m * 2 ^ d) d = m := by
  unfold evn
  have := Nat.two_pow_pos d
  rw [Nat.mul_mod_left, Nat.mul_div_cancel _ this]
  rw [decide_eq_false (by omega), decide_eq_false (by omega)]
  rfl
/-- The double nearest to a whole number. -/
def fl (N : Nat) : Nat := FloatKind.f64.nearest (N : Int)
theorem fl_near (N : Nat) : fl N = Ieee.double.nearest false N 0 := by
  unfold fl FloatKind.nearest FloatKind.encode Ieee.Format.write
  have : decide ((N : Int) < 0) = false := decide_eq_false (by omega)
  simp only [this, Int.natAbs_natCast]
  rfl
theorem word_pos (f : Ieee.Format) (r : Nat) : f.word false r = r := rfl
theorem near_low (N L k : Nat) (h1 : 2 ^ L ≤ N) (h2 : N < 2 ^ (L + 1)) (hL : L ≤ 52) : Ieee.double.nearest false (N * 2 ^ k) (-(k : Int)) = (L + 1022) * 4503599627370496 + N * 2 ^ (52 - L) := by
  have e2 : Ieee.double.binade = 4503599627370496 := by decide
  have e3 : Ieee.double.infRung = 9218868437227405312 := by decide
  have e4 : Ieee.double.leastPlace = -1074 := by decide
  have e5 : Ieee.double.fractionBits = 52 := rfl
  have hN := Nat.two_pow_pos L
  have hk := Nat.two_pow_pos k
  have hlog : (N * 2 ^ k).log2 = L + k := log2_of (by rw [Nat.pow_add]; exact Nat.mul_le_mul_right _ h1) (by rw [show L + k + 1 = (L + 1) + k by omega, Nat.pow_add 2 (L + 1) k]; exact Nat.mul_lt_mul_of_pos_right h2 hk)
  have h0 : N * 2 ^ k ≠ 0 := by
    have := Nat.mul_pos (show 0 < N by omega) hk
    omega
  unfold Ieee.Format.nearest
  rw [if_neg h0, e2, e3, e4, e5, hlog]
  have e6 : max (-(k : Int) + ((L + k : Nat) : Int) - (52 : Nat)) (-1074) = (L : Int) - 52 := by omega
  rw [e6]
  dsimp only
  have h3 : N * 2 ^ (52 - L) < 9007199254740992 := by
    have : N * 2 ^ (52 - L) < 2 ^ (L + 1) * 2 ^ (52 - L) := Nat.mul_lt_mul_of_pos_right h2 (Nat.two_pow_pos _)
    rw [← Nat.pow_add, show L + 1 + (52 - L) = 53 by omega] at this
    exact this
  have hcut : Ieee.Toward.even.cut false ((N * 2 ^ k) <<< (-(k : Int) - ((L : Int) - 52)).toNat) ((L : Int) - 52 - -(k : Int)).toNat = N * 2 ^ (52 - L) := by
    rcases Nat.lt_or_ge (52 - L) k with hc | hc
    · have q1 : (-(k : Int) - ((L : Int) - 52)).toNat = 0 := by omega
      have q2 : ((L : Int) - 52 - -(k : Int)).toNat = k - (52 - L) := by omega
      rw [q1, q2, Nat.shiftLeft_zero, cut_evn _ _ (by rw [hlog]; omega)]
      rw [show N * 2 ^ k = N * 2 ^ (52 - L) * 2 ^ (k - (52 - L)) by rw [Nat.mul_assoc, ← Nat.pow_add]; congr 2; omega]
      exact evn_exact _ _
    · have q1 : (-(k : Int) - ((L : Int) - 52)).toNat = 52 - L - k := by omega
      have q2 : ((L : Int) - 52 - -(k : Int)).toNat = 0 := by omega
      rw [q1, q2, cut_evn _ _ (Nat.zero_le _), Nat.shiftLeft_eq, Nat.mul_assoc, ← Nat.pow_add, show k + (52 - L - k) = 52 - L by omega]
      have := evn_exact (N * 2 ^ (52 - L)) 0
      rwa [Nat.pow_zero, Nat.mul_one] at this
  rw [hcut]
  have e7 : ((L : Int) - 52 - -1074).toNat = L + 1022 := by omega
  rw [e7, Nat.min_eq_left (by omega), word_pos]
theorem fl_low {N L : Nat} (h1 : 2 ^ L ≤ N) (h2 : N < 2 ^ (L + 1)) (hL : L ≤ 52) : fl N = (L + 1022) * 4503599627370496 + N * 2 ^ (52 - L) := by
  rw [fl_near]
  have h := near_low N L 0 h1 h2 hL
  have e : -((0 : Nat) : Int) = 0 := rfl
  rw [Nat.pow_zero, Nat.mul_one, e] at h
  exact h
theorem fl_high {N L : Nat} (h1 : 2 ^ L ≤ N) (h2 : N < 2 ^ (L + 1)) (hL : 52 ≤ L) : fl N = min ((L + 1022) * 4503599627370496 + evn N (L - 52)) 9218868437227405312 := by
  have e2 : Ieee.double.binade = 4503599627370496 := by decide
  have e3 : Ieee.double.infRung = 9218868437227405312 := by decide
  have e4 : Ieee.double.leastPlace = -1074 := by decide
  have e5 : Ieee.double.fractionBits = 52 := rfl
  have hN := Nat.two_pow_pos L
  have hlog := log2_of h1 h2
  rw [fl_near]
  unfold Ieee.Format.nearest
  rw [if_neg (by omega), e2, e3, e4, e5, hlog]
  have e6 : max (0 + (L : Int) - (52 : Nat)) (-1074) = (L : Int) - 52 := by omega
  rw [e6]
  dsimp only
  have q1 : ((0 : Int) - ((L : Int) - 52)).toNat = 0 := by omega
  have q2 : ((L : Int) - 52 - 0).toNat = L - 52 := by omega
  rw [q1, q2, Nat.shiftLeft_zero, cut_evn _ _ (by rw [hlog]; omega)]
  have e7 : ((L : Int) - 52 - -1074).toNat = L + 1022 := by omega
  rw [e7, word_pos]
theorem fl_zero : fl 0 = 0 := by rw [fl_near]; decide
theorem near_exact (N k : Nat) (h : N < 9007199254740992) : Ieee.double.nearest false (N * 2 ^ k) (-(k : Int)) = fl N := by
  rcases Nat.eq_zero_or_pos N with h0 | h0
  · subst h0
    rw [fl_zero, Nat.zero_mul]
    rfl
  · obtain ⟨a1, a2⟩ := log2_two N h0
    have hL : N.log2 ≤ 52 := by
      have : 2 ^ N.log2 < 2 ^ 53 := Nat.lt_of_le_of_lt a1 h
      have := (Nat.pow_lt_pow_iff_right (a := 2) (by omega)).1 this
      omega
    rw [near_low N _ k a1 a2 hL, fl_low a1 a2 hL]
theorem read_fl (N : Nat) (h : N < 9007199254740992) : ∃ k : Nat, Ieee.double.read (fl N) = .number false (N * 2 ^ k) (-(k : Int)) := by
  rcases Nat.eq_zero_or_pos N with h0 | h0
  · subst h0
    obtain ⟨K, hK⟩ : ∃ K : Nat, K = 1074 := ⟨_, rfl⟩
    refine ⟨K, ?_⟩
    rw [fl_zero, Nat.zero_mul, show -(K : Int) = -1074 by omega]
    decide
  · obtain ⟨a1, a2⟩ := log2_two N h0
    have hL : N.log2 ≤ 52 := by
      have : 2 ^ N.log2 < 2 ^ 53 := Nat.lt_of_le_of_lt a1 h
      have := (Nat.pow_lt_pow_iff_right (a := 2) (by omega)).1 this
      omega
    rw [fl_low a1 a2 hL]
    obtain ⟨L, hLL⟩ : ∃ L, N.log2 = L := ⟨_, rfl⟩
    rw [hLL] at a1 a2 hL ⊢
    have h3 : N * 2 ^ (52 - L) < 9007199254740992 := by
      have : N * 2 ^ (52 - L) < 2 ^ (L + 1) * 2 ^ (52 - L) := Nat.mul_lt_mul_of_pos_right a2 (Nat.two_pow_pos _)
      rw [← Nat.pow_add, show L + 1 + (52 - L) = 53 by omega] at this
      exact this
    have h4 : 4503599627370496 ≤ N * 2 ^ (52 - L) := by
      have : 2 ^ L * 2 ^ (52 - L) ≤ N * 2 ^ (52 - L) := Nat.mul_le_mul_right _ a1
      rw [← Nat.pow_add, show L + (52 - L) = 52 by omega] at this
      exact this
    refine ⟨52 - L, ?_⟩
    obtain ⟨M, hM⟩ : ∃ M, N * 2 ^ (52 - L) = M := ⟨_, rfl⟩
    rw [hM] at h3 h4 ⊢
    have e1 : Ieee.double.signWeight = 9223372036854775808 := by decide
    have e2 : Ieee.double.binade = 4503599627370496 := by decide
    have e3 : Ieee.double.infRung = 9218868437227405312 := by decide
    have e4 : Ieee.double.leastPlace = -1074 := by decide
    unfold Ieee.Format.read
    rw [e1, e2, e3, e4]
    have q1 : ((L + 1022) * 4503599627370496 + M) % 9223372036854775808 = (L + 1022) * 4503599627370496 + M := Nat.mod_eq_of_lt (by omega)
    have q2 : ((L + 1022) * 4503599627370496 + M) / 9223372036854775808 % 2 = 0 := by omega
    have q3 : 4503599627370496 + ((L + 1022) * 4503599627370496 + M) % 4503599627370496 = M := by omega
    have q4 : (-1074 : Int) + ((((L + 1022) * 4503599627370496 + M) / 4503599627370496 - 1 : Nat) : Int) = -((52 - L : Nat) : Int) := by omega
    simp only [q1, q2, q3, q4]
    rw [if_neg (by omega), if_pos (by omega)]
    rfl
theorem fl_add {a b : Nat} (ha : a < 9007199254740992) (hb : b < 9007199254740992) (hab : a + b < 9007199254740992) : Ieee.double.add (fl a) (fl b) = some (fl (a + b)) := by
  obtain ⟨k, hk⟩ := read_fl a ha
  obtain ⟨l, hl⟩ := read_fl b hb
  unfold Ieee.Format.add
  rw [hk, hl]
  have hsum : ∃ j : Nat, Ieee.Datum.sum (.number false (a * 2 ^ k) (-(k : Int))) (.number false (b * 2 ^ l) (-(l : Int))) = some (.number false ((a + b) * 2 ^ j) (-(j : Int))) := by
    refine ⟨max k l, ?_⟩
    unfold Ieee.Datum.sum
    simp only [signed_eq, Bool.false_eq_true, if_false]
    have b1 : min (-(k : Int)) (-(l : Int)) = -((max k l : Nat) : Int) := by omega
    rw [b1]
    have b2 : (-(k : Int) - -((max k l : Nat) : Int)).toNat = max k l - k := by omega
    have b3 : (-(l : Int) - -((max k l : Nat) : Int)).toNat = max k l - l := by omega
    rw [b2, b3]
    have b4 : a * 2 ^ k * 2 ^ (max k l - k) = a * 2 ^ max k l := by rw [Nat.mul_assoc, ← Nat.pow_add]; congr 2; omega
    have b5 : b * 2 ^ l * 2 ^ (max k l - l) = b * 2 ^ max k l := by rw [Nat.mul_assoc, ← Nat.pow_add]; congr 2; omega
    rw [b4, b5, ← Int.natCast_add, ← Nat.add_mul, Int.natAbs_natCast]
    have b6 : decide ((((a + b) * 2 ^ max k l : Nat) : Int) < 0) = false := decide_eq_false (by omega)
    rw [b6]
    simp
  obtain ⟨j, hj⟩ := hsum
  rw [hj]
  show some (Ieee.double.nearest false ((a + b) * 2 ^ j) (-(j : Int))) = _
  rw [near_exact _ _ hab]
theorem fl_mul {a b : Nat} (ha : a < 9007199254740992) (hb : b < 9007199254740992) (hab : a * b < 9007199254740992) : Ieee.double.mul (fl a) (fl b) = some (fl (a * b)) := by
  obtain ⟨k, hk⟩ := read_fl a ha
  obtain ⟨l, hl⟩ := read_fl b hb
  unfold Ieee.Format.mul
  rw [hk, hl]
  show some (Ieee.double.nearest false (a * 2 ^ k * (b * 2 ^ l)) (-(k : Int) + -(l : Int))) = _
  rw [show a * 2 ^ k * (b * 2 ^ l) = a * b * 2 ^ (k + l) by rw [Nat.pow_add]; grind, show -(k : Int) + -(l : Int) = -((k + l : Nat) : Int) by omega, near_exact _ _ hab]

end Go.Proofs.Ytbinpcoaghpcdaa
