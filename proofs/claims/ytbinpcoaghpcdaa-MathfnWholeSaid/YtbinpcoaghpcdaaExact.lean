/-
  Plain lemmas on floats of 64 bits: what a float can hold is told exactly. No program in it.
-/
import Derived.Test.YtbinpcoaghpcdaaNear
namespace Go.Proofs.Ytbinpcoaghpcdaa
theorem fmag_zero : fmag 0 = 0 := rfl
theorem fmag_pos {r : Nat} : 0 < fmag r ↔ 0 < r := by have := @fmag_lt 0 r; rw [fmag_zero] at this; exact this
theorem fmag_low {r : Nat} (h : r < 9007199254740992) : fmag r = r := by
  unfold fmag
  by_cases h1 : r < 4503599627370496
  · rw [if_pos h1]
  · rw [if_neg h1, show r / 4503599627370496 = 1 by omega, Nat.sub_self, Nat.pow_zero]; omega
theorem fmag_low' {r : Nat} (h : fmag r < 9007199254740992) : r < 9007199254740992 := by
  have h1 : fmag 9007199254740992 = 9007199254740992 := by decide
  rw [← h1] at h
  exact fmag_lt.1 h
/-- A float of a whole significand and a power. -/
theorem fmag_make (M d : Nat) (h1 : 4503599627370496 ≤ M) (h2 : M < 9007199254740992) : fmag (d * 4503599627370496 + M) = M * 2 ^ d := by
  unfold fmag
  rw [if_neg (by omega), show (d * 4503599627370496 + M) % 4503599627370496 = M - 4503599627370496 by omega, show (d * 4503599627370496 + M) / 4503599627370496 = d + 1 by omega, Nat.add_sub_cancel]
  rw [show 4503599627370496 + (M - 4503599627370496) = M by omega]
theorem fmag_split {r : Nat} (h : 4503599627370496 ≤ r) : ∃ M d, 4503599627370496 ≤ M ∧ M < 9007199254740992 ∧ r = d * 4503599627370496 + M ∧ fmag r = M * 2 ^ d :=
  ⟨4503599627370496 + r % 4503599627370496, r / 4503599627370496 - 1, by omega, by omega, by omega, by unfold fmag; rw [if_neg (by omega)]⟩
theorem log2_mul {M d : Nat} (h : 0 < M) : (M * 2 ^ d).log2 = M.log2 + d := by
  obtain ⟨a1, a2⟩ := log2_two M h
  refine log2_of ?_ ?_
  · rw [Nat.pow_add]; exact Nat.mul_le_mul_right _ a1
  · rw [show M.log2 + d + 1 = M.log2 + 1 + d by omega, Nat.pow_add]; exact Nat.mul_lt_mul_of_pos_right a2 (Nat.two_pow_pos d)
theorem log2_sig {M : Nat} (h1 : 4503599627370496 ≤ M) (h2 : M < 9007199254740992) : M.log2 = 52 := log2_of (show 2 ^ 52 ≤ M by exact h1) (show M < 2 ^ 53 by exact h2)
theorem cut_sgn (s : Bool) (n d : Nat) : Ieee.Toward.even.cut s n d = Ieee.Toward.even.cut false n d := rfl
theorem pow_cancel {x y a b : Nat} (h : x * 2 ^ (a + b) = y * 2 ^ b) : x * 2 ^ a = y := by
  rw [Nat.pow_add, ← Nat.mul_assoc] at h
  exact Nat.eq_of_mul_eq_mul_right (Nat.two_pow_pos b) h
/-- A number that a float has is rounded to it. -/
theorem near_gen (s : Bool) {r m a b : Nat} {e : Int} (hr : r < 9218868437227405312) (hab : (a : Int) - b = e + 1074) (h : m * 2 ^ a = fmag r * 2 ^ b) : Ieee.double.nearest s m e = Ieee.double.word s r := by
  have e2 : Ieee.double.binade = 4503599627370496 := by decide
  have e3 : Ieee.double.infRung = 9218868437227405312 := by decide
  have e4 : Ieee.double.leastPlace = -1074 := by decide
  have e5 : Ieee.double.fractionBits = 52 := rfl
  unfold Ieee.Format.nearest
  rcases Nat.eq_zero_or_pos r with h0 | h0
  · subst h0
    rw [fmag_zero, Nat.zero_mul] at h
    have hm : m = 0 := (Nat.mul_eq_zero.1 h).resolve_right (by have := Nat.two_pow_pos a; omega)
    rw [if_pos hm]
  · have hf := fmag_pos.2 h0
    have hm : 0 < m := by
      rcases Nat.eq_zero_or_pos m with h1 | h1
      · rw [h1, Nat.zero_mul] at h
        have := Nat.mul_pos hf (Nat.two_pow_pos b)
        omega
      · exact h1
    rw [if_neg (by omega), e2, e3, e4, e5]
    have hlog : m.log2 + a = (fmag r).log2 + b := by rw [← log2_mul hm, ← log2_mul hf, h]
    obtain ⟨L, hL⟩ : ∃ L, m.log2 = L := ⟨_, rfl⟩
    rw [hL] at hlog ⊢
    dsimp only
    by_cases hlow : r < 9007199254740992
    · have hfr := fmag_low hlow
      rw [hfr] at hlog h
      have hl : r.log2 ≤ 52 := by have := (Nat.log2_lt (n := r) (k := 53) (by omega)).2 hlow; omega
      have e6 : max (e + (L : Int) - (52 : Nat)) (-1074) = -1074 := by omega
      rw [e6, cut_sgn]
      have hcut : Ieee.Toward.even.cut false (m <<< (e - -1074).toNat) (-1074 - e).toNat = r := by
        rcases Nat.lt_or_ge a b with hlt | hge
        · obtain ⟨c, rfl⟩ : ∃ c, b = c + a := ⟨b - a, by omega⟩
          have hmm : m = r * 2 ^ c := (pow_cancel (x := r) (y := m) h.symm).symm
          have q1 : (e - -1074).toNat = 0 := by omega
          have q2 : (-1074 - e).toNat = c := by omega
          rw [q1, q2, Nat.shiftLeft_zero, cut_evn _ _ (by rw [hmm, log2_mul h0]; omega), hmm, evn_exact]
        · obtain ⟨c, rfl⟩ : ∃ c, a = c + b := ⟨a - b, by omega⟩
          have hmm : m * 2 ^ c = r := pow_cancel h
          have q1 : (e - -1074).toNat = c := by omega
          have q2 : (-1074 - e).toNat = 0 := by omega
          rw [q1, q2, Nat.shiftLeft_eq, hmm, cut_evn _ _ (Nat.zero_le _)]
          have := evn_exact r 0
          rwa [Nat.pow_zero, Nat.mul_one] at this
      rw [hcut, show (-1074 - -1074 : Int).toNat = 0 by omega, Nat.zero_mul, Nat.zero_add, Nat.min_eq_left (by omega)]
    · obtain ⟨M, d, h1, h2, hrd, hfr⟩ := fmag_split (r := r) (by omega)
      rw [hfr, log2_mul (by omega), log2_sig h1 h2] at hlog
      rw [hfr] at h
      have hd : 0 < d := by omega
      have e6 : max (e + (L : Int) - (52 : Nat)) (-1074) = (d : Int) - 1074 := by omega
      rw [e6, cut_sgn]
      have hcut : Ieee.Toward.even.cut false (m <<< (e - ((d : Int) - 1074)).toNat) ((d : Int) - 1074 - e).toNat = M := by
        rw [Nat.mul_assoc, ← Nat.pow_add] at h
        rcases Nat.lt_or_ge a (d + b) with hlt | hge
        · obtain ⟨c, hc⟩ : ∃ c, d + b = c + a := ⟨d + b - a, by omega⟩
          rw [hc] at h
          have hmm : m = M * 2 ^ c := (pow_cancel (x := M) (y := m) h.symm).symm
          have q1 : (e - ((d : Int) - 1074)).toNat = 0 := by omega
          have q2 : ((d : Int) - 1074 - e).toNat = c := by omega
          rw [q1, q2, Nat.shiftLeft_zero, cut_evn _ _ (by rw [hL]; omega), hmm, evn_exact]
        · obtain ⟨c, hc⟩ : ∃ c, a = c + (d + b) := ⟨a - (d + b), by omega⟩
          rw [hc] at h
          have hmm : m * 2 ^ c = M := pow_cancel h
          have q1 : (e - ((d : Int) - 1074)).toNat = c := by omega
          have q2 : ((d : Int) - 1074 - e).toNat = 0 := by omega
          rw [q1, q2, Nat.shiftLeft_eq, hmm, cut_evn _ _ (Nat.zero_le _)]
          have := evn_exact M 0
          rwa [Nat.pow_zero, Nat.mul_one] at this
      rw [hcut, show ((d : Int) - 1074 - -1074).toNat = d by omega, Nat.min_eq_left (by omega), ← hrd]
theorem near_fmag (s : Bool) {r m : Nat} {e : Int} (hr : r < 9218868437227405312) (he : -1074 ≤ e) (h : m * 2 ^ (e + 1074).toNat = fmag r) : Ieee.double.nearest s m e = Ieee.double.word s r :=
  near_gen s (a := (e + 1074).toNat) (b := 0) hr (by omega) (by rw [h, Nat.pow_zero, Nat.mul_one])
/-- What a float can hold: a whole number below 2^53 times a power. -/
theorem rep_of {N M j : Nat} (hN : N = M * 2 ^ j) (hM : M < 9007199254740992) : ∃ r, fmag r = N := by
  by_cases hlow : N < 9007199254740992
  · exact ⟨N, fmag_low hlow⟩
  · have hM0 : 0 < M := by rcases Nat.eq_zero_or_pos M with h | h; · rw [h] at hN; omega
                           · exact h
    obtain ⟨a1, a2⟩ := log2_two M hM0
    have hl : M.log2 ≤ 52 := by have := (Nat.log2_lt (n := M) (k := 53) (by omega)).2 hM; omega
    obtain ⟨c, hc⟩ : ∃ c, c + M.log2 = 52 := ⟨52 - M.log2, by omega⟩
    have b1 : 4503599627370496 ≤ M * 2 ^ c := by
      have : 2 ^ M.log2 * 2 ^ c ≤ M * 2 ^ c := Nat.mul_le_mul_right _ a1
      rw [← Nat.pow_add, show M.log2 + c = 52 by omega] at this
      exact this
    have b2 : M * 2 ^ c < 9007199254740992 := by
      have : M * 2 ^ c < 2 ^ (M.log2 + 1) * 2 ^ c := Nat.mul_lt_mul_of_pos_right a2 (Nat.two_pow_pos c)
      rw [← Nat.pow_add, show M.log2 + 1 + c = 53 by omega] at this
      exact this
    have hjc : c ≤ j := by
      rcases Nat.lt_or_ge j c with h | h
      · have h1 : M * 2 ^ j ≤ M * 2 ^ c := Nat.mul_le_mul_left _ (Nat.pow_le_pow_right (by omega) (by omega))
        omega
      · exact h
    obtain ⟨d, rfl⟩ : ∃ d, j = c + d := ⟨j - c, by omega⟩
    exact ⟨d * 4503599627370496 + M * 2 ^ c, by rw [fmag_make _ _ b1 b2, hN, Nat.pow_add, Nat.mul_assoc]⟩
/-- The difference of two near floats is a float. -/
theorem rep_sub {x y : Nat} (h1 : fmag y ≤ fmag x) (h2 : fmag x ≤ 2 * fmag y) : ∃ r, fmag y + fmag r = fmag x := by
  by_cases hy : y < 4503599627370496
  · have hfy := fmag_low (r := y) (by omega)
    obtain ⟨r, hr⟩ := rep_of (N := fmag x - fmag y) (M := fmag x - fmag y) (j := 0) (by rw [Nat.pow_zero, Nat.mul_one]) (by omega)
    exact ⟨r, by omega⟩
  · obtain ⟨M, d, a1, a2, a3, a4⟩ := fmag_split (r := y) (by omega)
    have hxy : y ≤ x := by
      rcases Nat.lt_or_ge x y with h | h
      · have := fmag_step h; omega
      · exact h
    obtain ⟨K, c, b1, b2, b3, b4⟩ := fmag_split (r := x) (by omega)
    have hdc : d ≤ c := by omega
    obtain ⟨q, rfl⟩ : ∃ q, c = q + d := ⟨c - d, by omega⟩
    have h5 : fmag x - fmag y = (K * 2 ^ q - M) * 2 ^ d := by rw [a4, b4, Nat.sub_mul, Nat.pow_add, Nat.mul_assoc]
    have h6 : K * 2 ^ q - M ≤ M := by
      have h7 : (K * 2 ^ q - M) * 2 ^ d ≤ M * 2 ^ d := by rw [← h5, ← a4]; omega
      exact Nat.le_of_mul_le_mul_right h7 (Nat.two_pow_pos d)
    obtain ⟨r, hr⟩ := rep_of h5 (by omega)
    exact ⟨r, by omega⟩
theorem word_false (r : Nat) : Ieee.double.word false r = r := rfl
theorem word_true (r : Nat) : Ieee.double.word true r = 9223372036854775808 + r := rfl
theorem read_pos {w : Nat} (h : w < 9218868437227405312) : ∃ m e, Ieee.double.read w = .number false m e ∧ -1074 ≤ e ∧ fmag w = m * 2 ^ (e + 1074).toNat := by
  have h1 : rung w = w := Nat.mod_eq_of_lt (by omega)
  have h2 : fneg w = false := by unfold fneg; rw [Nat.div_eq_of_lt (by omega)]; rfl
  obtain ⟨m, e, a, b, c⟩ := read_num (w := w) (by rw [h1]; exact h)
  rw [h2] at a
  rw [h1] at c
  exact ⟨m, e, a, b, c⟩
theorem scale_up {m : Nat} {i base : Int} (hi : base ≤ i) (hb : -1074 ≤ base) : m * 2 ^ (i - base).toNat * 2 ^ (base + 1074).toNat = m * 2 ^ (i + 1074).toNat := by
  rw [Nat.mul_assoc, ← Nat.pow_add, show (i - base).toNat + (base + 1074).toNat = (i + 1074).toNat by omega]
/-- A difference that a float has is told exactly. -/
theorem sub_exact {x y r : Nat} (hx : x < 9218868437227405312) (hy : y < 9218868437227405312) (h : fmag y + fmag r = fmag x) : Ieee.double.sub x y = some r := by
  obtain ⟨m, i, a1, a2, a3⟩ := read_pos hx
  obtain ⟨n, j, b1, b2, b3⟩ := read_pos hy
  have hrx : r ≤ x := by
    rcases Nat.lt_or_ge x r with h1 | h1
    · have := fmag_step h1; omega
    · exact h1
  unfold Ieee.Format.sub
  rw [a1, b1]
  simp only [Ieee.Datum.opposite, Ieee.Datum.sum, Option.map_some, signed_eq, Bool.not_false, if_true, Bool.false_eq_true, if_false]
  obtain ⟨base, hbase⟩ : ∃ base, min i j = base := ⟨_, rfl⟩
  rw [hbase]
  have u1 := scale_up (m := m) (i := i) (base := base) (by omega) (by omega)
  have u2 := scale_up (m := n) (i := j) (base := base) (by omega) (by omega)
  rw [← a3] at u1
  rw [← b3] at u2
  obtain ⟨X, hX⟩ : ∃ X, m * 2 ^ (i - base).toNat = X := ⟨_, rfl⟩
  obtain ⟨Y, hY⟩ : ∃ Y, n * 2 ^ (j - base).toNat = Y := ⟨_, rfl⟩
  rw [hX] at u1 ⊢
  rw [hY] at u2 ⊢
  have hYX : Y ≤ X := Nat.le_of_mul_le_mul_right (by rw [u1, u2]; omega) (Nat.two_pow_pos (base + 1074).toNat)
  obtain ⟨T, rfl⟩ : ∃ T, X = Y + T := ⟨X - Y, by omega⟩
  have hT : T * 2 ^ (base + 1074).toNat = fmag r := by rw [Nat.add_mul] at u1; omega
  have hn : ((Y + T : Nat) : Int) + -(Y : Int) = (T : Int) := by omega
  rw [hn, Int.natAbs_natCast]
  have hs : (if (T : Int) = 0 then false && true else decide ((T : Int) < 0)) = false := by
    split
    · rfl
    · exact decide_eq_false (by omega)
  rw [hs]
  refine congrArg some ?_
  exact near_fmag false (by omega) (by omega) hT
/-- A product that a float has is told exactly. -/
theorem mul_exact {x y r : Nat} (hx : x < 9218868437227405312) (hy : y < 9218868437227405312) (hr : r < 9218868437227405312) {K : Nat} (hK : K = 1074) (h : fmag x * fmag y = fmag r * 2 ^ K) : Ieee.double.mul x y = some r := by
  obtain ⟨m, i, a1, a2, a3⟩ := read_pos hx
  obtain ⟨n, j, b1, b2, b3⟩ := read_pos hy
  unfold Ieee.Format.mul
  rw [a1, b1]
  simp only [Ieee.Datum.product, Option.map_some, Bool.xor_self]
  refine congrArg some ?_
  refine near_gen false (a := (i + 1074).toNat + (j + 1074).toNat) (b := K) hr (by omega) ?_
  rw [← h, a3, b3, Nat.pow_add]
  grind

end Go.Proofs.Ytbinpcoaghpcdaa
