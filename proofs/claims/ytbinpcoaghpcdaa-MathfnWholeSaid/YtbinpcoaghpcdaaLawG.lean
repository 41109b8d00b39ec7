/-
  The law NumberFloors: Floor, Ceil and Round of the program.
-/
import Derived.Test.YtbinpcoaghpcdaaLawN
namespace Go.Proofs.Ytbinpcoaghpcdaa
open Go.RowKit
/-- Floor of a finite float: a whole number that it has. -/
theorem floor_spec {s : Bool} {a : Nat} (ha : a < 9218868437227405312) {K : Nat} (hK : K = 1074) : ∃ c r, itg .down (Ieee.double.word s a) = Ieee.double.word s r ∧ r < 9218868437227405312 ∧ fmag r = c * 2 ^ K ∧ (c * 2 ^ K = fmag a ∨ (s = false ∧ c * 2 ^ K < fmag a ∧ fmag a < (c + 1) * 2 ^ K) ∨ (s = true ∧ 0 < c ∧ fmag a < c * 2 ^ K ∧ c * 2 ^ K < fmag a + 2 ^ K)) := by
  obtain ⟨m, e, h1, h2, h3⟩ := read_word s ha
  have hU := Nat.two_pow_pos K
  obtain ⟨n, hn⟩ : ∃ n, m <<< e.toNat = n := ⟨_, rfl⟩
  obtain ⟨d, hd⟩ : ∃ d, (-e).toNat = d := ⟨_, rfl⟩
  have hdK : d ≤ K := by omega
  -- the amount, over 2^d
  have hA : fmag a * 2 ^ d = n * 2 ^ K := by
    rw [h3, ← hn, Nat.shiftLeft_eq, Nat.mul_assoc, Nat.mul_assoc, ← Nat.pow_add, ← Nat.pow_add, show (e + 1074).toNat + d = e.toNat + K by omega]
  have hD := Nat.two_pow_pos d
  have hf : itg .down (Ieee.double.word s a) = Ieee.double.nearest s (Ieee.Toward.down.cut s n d) 0 := by
    unfold itg
    rw [show FloatKind.f64.decode (Ieee.double.word s a) = Ieee.double.read (Ieee.double.word s a) from rfl, h1, ← hn, ← hd]
    rfl
  -- the whole number
  have hcut : ∃ c, Ieee.Toward.down.cut s n d = c ∧ (c * 2 ^ d = n ∨ (s = false ∧ c * 2 ^ d < n ∧ n < (c + 1) * 2 ^ d) ∨ (s = true ∧ 0 < c ∧ n < c * 2 ^ d ∧ c * 2 ^ d < n + 2 ^ d)) := by
    refine ⟨_, rfl, ?_⟩
    unfold Ieee.Toward.cut
    simp only
    rw [Nat.one_shiftLeft]
    have hlow : n / 2 ^ min d (n.log2 + 2) = n / 2 ^ d ∧ ((n % 2 ^ min d (n.log2 + 2) != 0) = (n % 2 ^ d != 0)) := by
      by_cases hm : d ≤ n.log2 + 2
      · rw [Nat.min_eq_left hm]; exact ⟨rfl, rfl⟩
      · rw [Nat.min_eq_right (by omega)]
        have hlt : n < 2 ^ (n.log2 + 2) := by
          rcases Nat.eq_zero_or_pos n with h0 | h0
          · rw [h0]; exact Nat.two_pow_pos _
          · have := (log2_two n h0).2
            have h9 : 2 ^ (n.log2 + 1) ≤ 2 ^ (n.log2 + 2) := Nat.pow_le_pow_right (by omega) (by omega)
            omega
        have hlt2 : n < 2 ^ d := Nat.lt_of_lt_of_le hlt (Nat.pow_le_pow_right (by omega) (by omega))
        rw [Nat.div_eq_of_lt hlt, Nat.div_eq_of_lt hlt2, Nat.mod_eq_of_lt hlt, Nat.mod_eq_of_lt hlt2]
        exact ⟨rfl, rfl⟩
    rw [hlow.1, hlow.2]
    have hdm := Nat.div_add_mod n (2 ^ d)
    have hml := Nat.mod_lt n hD
    obtain ⟨q, hq⟩ : ∃ q, n / 2 ^ d = q := ⟨_, rfl⟩
    obtain ⟨t, ht⟩ : ∃ t, n % 2 ^ d = t := ⟨_, rfl⟩
    rw [hq, ht] at hdm
    rw [ht] at hml
    rw [hq, ht]
    rw [Nat.mul_comm] at hdm
    by_cases h0 : t = 0
    · left
      subst h0
      simp
      omega
    · right
      have hb : (t != 0) = true := by simp [h0]
      rw [hb, Bool.and_true]
      cases s
      · left
        refine ⟨rfl, ?_, ?_⟩
        · simp; omega
        · simp [Nat.add_mul]; omega
      · right
        refine ⟨rfl, ?_, ?_, ?_⟩
        · simp
        · simp [Nat.add_mul]; omega
        · simp [Nat.add_mul]; omega
  obtain ⟨c, hc, hcc⟩ := hcut
  rw [hc] at hf
  -- over 2^K
  have scale : ∀ u v : Nat, u * 2 ^ d < v → u * 2 ^ K * 2 ^ d < v * 2 ^ K := fun u v h => by
    have := Nat.mul_lt_mul_of_pos_right h hU
    rw [Nat.mul_right_comm] at this
    exact this
  have hK2 : (c * 2 ^ K = fmag a ∨ (s = false ∧ c * 2 ^ K < fmag a ∧ fmag a < (c + 1) * 2 ^ K) ∨ (s = true ∧ 0 < c ∧ fmag a < c * 2 ^ K ∧ c * 2 ^ K < fmag a + 2 ^ K)) := by
    rcases hcc with h | ⟨h4, h5, h6⟩ | ⟨h4, h5, h6, h7⟩
    · left
      refine Nat.eq_of_mul_eq_mul_right hD ?_
      rw [hA, ← h, Nat.mul_right_comm]
    · refine .inr (.inl ⟨h4, ?_, ?_⟩)
      · refine Nat.lt_of_mul_lt_mul_right (a := 2 ^ d) ?_
        rw [hA]; exact scale _ _ h5
      · refine Nat.lt_of_mul_lt_mul_right (a := 2 ^ d) ?_
        rw [hA, Nat.mul_right_comm]; exact Nat.mul_lt_mul_of_pos_right h6 hU
    · refine .inr (.inr ⟨h4, h5, ?_, ?_⟩)
      · refine Nat.lt_of_mul_lt_mul_right (a := 2 ^ d) ?_
        rw [hA, Nat.mul_right_comm]; exact Nat.mul_lt_mul_of_pos_right h6 hU
      · refine Nat.lt_of_mul_lt_mul_right (a := 2 ^ d) ?_
        have h8 := Nat.mul_lt_mul_of_pos_right h7 hU
        rw [Nat.add_mul, hA, Nat.mul_right_comm]
        rw [Nat.add_mul, Nat.mul_comm (2 ^ d) (2 ^ K)] at h8
        exact h8
  -- the float
  have hrep : ∃ r, r < 9218868437227405312 ∧ fmag r = c * 2 ^ K := by
    rcases hK2 with h | hh
    · exact ⟨a, ha, h.symm⟩
    · have hsmall : c < 9007199254740992 := by
        by_cases hbig : a < 4503599627370496
        · have h9 := fmag_low (r := a) (by omega)
          have h10 : c * 2 ^ K < 2 * 2 ^ K := by
            have h11 : (4503599627370496 : Nat) ≤ 2 ^ K := by
              rw [show (4503599627370496 : Nat) = 2 ^ 52 from rfl]; exact Nat.pow_le_pow_right (by omega) (by omega)
            rcases hh with ⟨_, h5, _⟩ | ⟨_, _, _, h7⟩ <;> omega
          have := Nat.lt_of_mul_lt_mul_right h10
          omega
        · obtain ⟨M, q, b1, b2, b3, b4⟩ := fmag_split (r := a) (by omega)
          have hqK : q < K := by
            rcases Nat.lt_or_ge q K with h12 | h12
            · exact h12
            · exfalso
              obtain ⟨j, rfl⟩ : ∃ j, q = j + K := ⟨q - K, by omega⟩
              rw [Nat.pow_add, ← Nat.mul_assoc] at b4
              rw [b4] at hh
              rcases hh with ⟨_, h5, h6⟩ | ⟨_, _, h6, h7⟩
              · have := Nat.lt_of_mul_lt_mul_right h5
                have := Nat.lt_of_mul_lt_mul_right h6
                omega
              · have := Nat.lt_of_mul_lt_mul_right h6
                have h8 : c * 2 ^ K < (M * 2 ^ j + 1) * 2 ^ K := by rw [Nat.add_mul]; omega
                have := Nat.lt_of_mul_lt_mul_right h8
                omega
          obtain ⟨g, rfl⟩ : ∃ g, K = q + 1 + g := ⟨K - q - 1, by omega⟩
          have h13 : M * 2 ^ q < 4503599627370496 * 2 ^ (q + 1 + g) := by
            have h14 : M * 2 ^ q < 4503599627370496 * 2 * 2 ^ q := Nat.mul_lt_mul_of_pos_right (by omega) (Nat.two_pow_pos q)
            have h15 : 4503599627370496 * 2 ^ (q + 1) ≤ 4503599627370496 * 2 ^ (q + 1 + g) := Nat.mul_le_mul_left _ (Nat.pow_le_pow_right (by omega) (by omega))
            rw [Nat.pow_succ, Nat.mul_comm (2 ^ q) 2, ← Nat.mul_assoc] at h15
            omega
          have h16 : c * 2 ^ (q + 1 + g) < (4503599627370496 + 1) * 2 ^ (q + 1 + g) := by
            rw [Nat.add_mul]
            rcases hh with ⟨_, h5, _⟩ | ⟨_, _, _, h7⟩ <;> omega
          have := Nat.lt_of_mul_lt_mul_right h16
          omega
      obtain ⟨h17, h18⟩ := fmag_fl hsmall hK
      exact ⟨fl c, h18, h17⟩
  obtain ⟨r, hr1, hr2⟩ := hrep
  exact ⟨c, r, by rw [hf, near_gen s (a := K) (b := 0) hr1 (by omega) (by rw [hr2, Nat.pow_zero, Nat.mul_one])], hr1, hr2, hK2⟩

end Go.Proofs.Ytbinpcoaghpcdaa
