/-
  Plain lemmas on floats of 64 bits: rounding keeps order; sums, products and quotients are rounded once. No program in it.
-/
import Derived.Test.YtbinpcoaghpcdaaLawN
import Derived.Test.YtbinpcoaghpcdaaExact
namespace Go.Proofs.Ytbinpcoaghpcdaa
theorem evn_le {n d C : Nat} (h : n ≤ C * 2 ^ d) : evn n d ≤ C := by
  unfold evn
  have hd := Nat.two_pow_pos d
  have e1 := Nat.div_add_mod n (2 ^ d)
  have hq : n / 2 ^ d ≤ C := Nat.div_le_of_le_mul (by rw [Nat.mul_comm]; exact h)
  rcases Nat.eq_or_lt_of_le hq with h1 | h1
  · have h2 : n % 2 ^ d = 0 := by
      rw [h1, Nat.mul_comm] at e1
      omega
    rw [h2, decide_eq_false (by omega), decide_eq_false (by omega)]
    simp only [Bool.false_and, Bool.or_self, Bool.toNat_false]
    omega
  · have := Bool.toNat_le (decide (2 ^ d < 2 * (n % 2 ^ d)) || (decide (2 ^ d = 2 * (n % 2 ^ d)) && decide (n / 2 ^ d % 2 = 1)))
    omega
theorem evn_ge {n d C : Nat} (h : C * 2 ^ d ≤ n) : C ≤ evn n d := by
  unfold evn
  have h1 : C ≤ n / 2 ^ d := (Nat.le_div_iff_mul_le (Nat.two_pow_pos d)).2 h
  omega
/-- Twice what rounding moves is one unit at most. -/
theorem evn_off (n d : Nat) : 2 * (evn n d * 2 ^ d) ≤ 2 * n + 2 ^ d ∧ 2 * n ≤ 2 * (evn n d * 2 ^ d) + 2 ^ d := by
  unfold evn
  have hd := Nat.two_pow_pos d
  have e1 := Nat.div_add_mod n (2 ^ d)
  have e2 := Nat.mod_lt n hd
  generalize n / 2 ^ d = q at *
  generalize n % 2 ^ d = t at *
  generalize 2 ^ d = D at *
  by_cases h1 : D < 2 * t
  · rw [decide_eq_true h1, Bool.true_or, Bool.toNat_true, Nat.add_mul, Nat.mul_comm q D]
    omega
  · rw [decide_eq_false h1, Bool.false_or]
    by_cases h2 : D = 2 * t ∧ q % 2 = 1
    · rw [decide_eq_true h2.1, decide_eq_true h2.2, Bool.true_and, Bool.toNat_true, Nat.add_mul, Nat.mul_comm q D]
      omega
    · have h3 : (decide (D = 2 * t) && decide (q % 2 = 1)) = false := by
        rw [Bool.and_eq_false_iff]
        by_cases h4 : D = 2 * t
        · exact Or.inr (decide_eq_false (by omega))
        · exact Or.inl (decide_eq_false h4)
      rw [h3, Bool.toNat_false, Nat.add_zero, Nat.mul_comm q D]
      omega
theorem evn_far {n d : Nat} (h : 2 * n < 2 ^ d) : evn n d = 0 := by
  have h1 : n < 2 ^ d := by omega
  unfold evn
  rw [Nat.div_eq_of_lt h1, Nat.mod_eq_of_lt h1, decide_eq_false (by omega), decide_eq_false (by omega)]
  rfl
theorem cut_all (n d : Nat) (hn : 0 < n) : Ieee.Toward.even.cut false n d = evn n d := by
  rcases Nat.lt_or_ge (n.log2 + 2) d with h | h
  · have h1 := (log2_two n hn).2
    have h2 : Ieee.Toward.even.cut false n d = evn n (n.log2 + 2) := by
      rw [← cut_evn n (n.log2 + 2) (Nat.le_refl _)]
      unfold Ieee.Toward.cut
      rw [Nat.min_eq_right (by omega), Nat.min_self]
    have h3 : 2 * n < 2 ^ (n.log2 + 2) := by rw [show n.log2 + 2 = n.log2 + 1 + 1 by omega, Nat.pow_succ]; omega
    rw [h2, evn_far h3, evn_far (Nat.lt_of_lt_of_le h3 (Nat.pow_le_pow_right (by omega) (by omega)))]
  · exact cut_evn n d h
/-- The rung r is where u / v (in units of the least float) is rounded to. -/
def Nearly (u v r : Nat) : Prop := ∃ D c, r = min (D * 4503599627370496 + c) 9218868437227405312 ∧ c ≤ 9007199254740992 ∧ (D = 0 ∨ (4503599627370496 ≤ c ∧ 4503599627370496 * 2 ^ D * v ≤ u)) ∧ (∀ C, u ≤ C * 2 ^ D * v → c ≤ C) ∧ (∀ C, C * 2 ^ D * v ≤ u → C ≤ c) ∧ (2 * (c * 2 ^ D * v) ≤ 2 * u + 2 ^ D * v ∧ 2 * u ≤ 2 * (c * 2 ^ D * v) + 2 ^ D * v)
theorem fmag_form (R : Nat) : ∃ M d, R = d * 4503599627370496 + M ∧ fmag R = M * 2 ^ d ∧ M < 9007199254740992 ∧ (d = 0 ∨ 4503599627370496 ≤ M) := by
  rcases Nat.lt_or_ge R 4503599627370496 with h | h
  · exact ⟨R, 0, by omega, by rw [fmag_low (by omega), Nat.pow_zero, Nat.mul_one], by omega, Or.inl rfl⟩
  · obtain ⟨M, d, a, b, c, e⟩ := fmag_split h
    exact ⟨M, d, c, e, b, Or.inr a⟩
theorem nearly_le {u v r R : Nat} (hv : 0 < v) (h : Nearly u v r) (hu : u ≤ fmag R * v) : r ≤ R := by
  obtain ⟨D, c, rfl, h2, h3, h4, h5, h6⟩ := h
  obtain ⟨M, d, e1, e2, e3, e4⟩ := fmag_form R
  refine Nat.le_trans (Nat.min_le_left _ _) ?_
  rw [e2] at hu
  rcases Nat.lt_or_ge d D with hd | hd
  · obtain ⟨h7, h8⟩ := h3.resolve_left (by omega)
    exfalso
    have h9 : 4503599627370496 * 2 ^ D ≤ M * 2 ^ d := Nat.le_of_mul_le_mul_right (Nat.le_trans h8 hu) hv
    obtain ⟨q, rfl⟩ : ∃ q, D = d + 1 + q := ⟨D - d - 1, by omega⟩
    have h10 : 4503599627370496 * 2 ^ (d + 1 + q) = (9007199254740992 * 2 ^ q) * 2 ^ d := by rw [Nat.pow_add, Nat.pow_add]; grind
    rw [h10] at h9
    have h11 := Nat.le_of_mul_le_mul_right h9 (Nat.two_pow_pos d)
    have := Nat.two_pow_pos q
    omega
  · obtain ⟨q, rfl⟩ : ∃ q, d = D + q := ⟨d - D, by omega⟩
    have h7 : c ≤ M * 2 ^ q := h4 _ (by rw [show M * 2 ^ q * 2 ^ D = M * 2 ^ (D + q) by rw [Nat.pow_add]; grind]; exact hu)
    rcases Nat.eq_zero_or_pos q with hq | hq
    · subst hq
      rw [Nat.pow_zero, Nat.mul_one] at h7
      omega
    · have : 4503599627370496 ≤ M := by omega
      have : (D + 1) * 4503599627370496 ≤ (D + q) * 4503599627370496 := Nat.mul_le_mul_right _ (by omega)
      omega
theorem nearly_ge {u v r R : Nat} (h : Nearly u v r) (hR : R ≤ 9218868437227405312) (hu : fmag R * v ≤ u) : R ≤ r := by
  obtain ⟨D, c, rfl, h2, h3, h4, h5, h6⟩ := h
  obtain ⟨M, d, e1, e2, e3, e4⟩ := fmag_form R
  refine Nat.le_min.2 ⟨?_, hR⟩
  rw [e2] at hu
  rcases Nat.lt_or_ge d D with hd | hd
  · obtain ⟨h7, h8⟩ := h3.resolve_left (by omega)
    have : (d + 1) * 4503599627370496 ≤ D * 4503599627370496 := Nat.mul_le_mul_right _ (by omega)
    omega
  · obtain ⟨q, rfl⟩ : ∃ q, d = D + q := ⟨d - D, by omega⟩
    have h7 : M * 2 ^ q ≤ c := h5 _ (by rw [show M * 2 ^ q * 2 ^ D = M * 2 ^ (D + q) by rw [Nat.pow_add]; grind]; exact hu)
    rcases Nat.lt_or_ge q 2 with hq | hq
    · rcases Nat.lt_or_ge q 1 with hq | hq
      · obtain rfl : q = 0 := by omega
        rw [Nat.pow_zero, Nat.mul_one] at h7
        omega
      · obtain rfl : q = 1 := by omega
        rw [Nat.pow_one] at h7
        omega
    · have h8 : M * 2 ^ 2 ≤ M * 2 ^ q := Nat.mul_le_mul_left _ (Nat.pow_le_pow_right (by omega) hq)
      omega
theorem nearly_inf {u v r : Nat} (h : Nearly u v r) : r ≤ 9218868437227405312 := by
  obtain ⟨D, c, rfl, _⟩ := h
  exact Nat.min_le_right _ _
theorem le_scale {m n a b : Nat} {x y : Nat} (h : a + y = b + x) : m * 2 ^ a ≤ n * 2 ^ b ↔ m * 2 ^ x ≤ n * 2 ^ y := by
  have key : ∀ {a b x y : Nat}, a + y = b + x → m * 2 ^ a ≤ n * 2 ^ b → m * 2 ^ x ≤ n * 2 ^ y := by
    intro a b x y h h1
    have h2 : m * 2 ^ a * 2 ^ y ≤ n * 2 ^ b * 2 ^ y := Nat.mul_le_mul_right _ h1
    rw [Nat.mul_assoc, ← Nat.pow_add, h, Nat.mul_assoc, ← Nat.pow_add, Nat.pow_add, Nat.pow_add, ← Nat.mul_assoc, ← Nat.mul_assoc, Nat.mul_right_comm m, Nat.mul_right_comm n] at h2
    exact Nat.le_of_mul_le_mul_right h2 (Nat.two_pow_pos b)
  exact ⟨key h, key (by omega)⟩
/-- What rounding at the place D tells. -/
def NearlyAt (u v D c : Nat) : Prop := c ≤ 9007199254740992 ∧ (D = 0 ∨ (4503599627370496 ≤ c ∧ 4503599627370496 * 2 ^ D * v ≤ u)) ∧ (∀ C, u ≤ C * 2 ^ D * v → c ≤ C) ∧ (∀ C, C * 2 ^ D * v ≤ u → C ≤ c) ∧ (2 * (c * 2 ^ D * v) ≤ 2 * u + 2 ^ D * v ∧ 2 * u ≤ 2 * (c * 2 ^ D * v) + 2 ^ D * v)
theorem near_form (s : Bool) {m a b : Nat} {e : Int} (hab : (a : Int) - b = e + 1074) : ∃ D c, Ieee.double.nearest s m e = Ieee.double.word s (min (D * 4503599627370496 + c) 9218868437227405312) ∧ NearlyAt (m * 2 ^ a) (2 ^ b) D c ∧ (m = 0 ∨ a + m.log2 ≤ D + b + 52) := by
  have e2 : Ieee.double.binade = 4503599627370496 := by decide
  have e3 : Ieee.double.infRung = 9218868437227405312 := by decide
  have e4 : Ieee.double.leastPlace = -1074 := by decide
  have e5 : Ieee.double.fractionBits = 52 := rfl
  unfold Ieee.Format.nearest
  rcases Nat.eq_zero_or_pos m with h0 | h0
  · subst h0
    rw [if_pos rfl]
    refine ⟨0, 0, rfl, ⟨by omega, Or.inl rfl, fun C _ => Nat.zero_le _, fun C h => ?_, ?_⟩, Or.inl rfl⟩
    · rw [Nat.pow_zero, Nat.mul_one, Nat.zero_mul] at h
      have := Nat.two_pow_pos b
      rcases Nat.eq_zero_or_pos C with h1 | h1
      · omega
      · have := Nat.mul_pos h1 this; omega
    · simp
  · rw [if_neg (by omega), e2, e3, e4, e5]
    obtain ⟨L, hL⟩ : ∃ L, m.log2 = L := ⟨_, rfl⟩
    obtain ⟨a1, a2⟩ := log2_two m h0
    rw [hL] at a1 a2 ⊢
    obtain ⟨p, hp⟩ : ∃ p, max (e + (L : Int) - (52 : Nat)) (-1074) = p := ⟨_, rfl⟩
    rw [hp]
    dsimp only
    rw [cut_sgn]
    refine ⟨(p - -1074).toNat, _, rfl, ?_, Or.inr (by omega)⟩
    obtain ⟨D, hD⟩ : ∃ D, (p - -1074).toNat = D := ⟨_, rfl⟩
    rw [hD]
    unfold NearlyAt
    rcases Int.lt_or_le p e with hpe | hpe
    · obtain ⟨q, hq⟩ : ∃ q : Nat, (e - p).toNat = q := ⟨_, rfl⟩
      rw [hq, show (p - e).toNat = 0 by omega, cut_all _ _ (by rw [Nat.shiftLeft_eq]; exact Nat.mul_pos h0 (Nat.two_pow_pos q)), Nat.shiftLeft_eq]
      have he0 : evn (m * 2 ^ q) 0 = m * 2 ^ q := by have := evn_exact (m * 2 ^ q) 0; rwa [Nat.pow_zero, Nat.mul_one] at this
      rw [he0]
      have hs : m * 2 ^ a = m * 2 ^ q * 2 ^ D * 2 ^ b := by rw [Nat.mul_assoc, Nat.mul_assoc, ← Nat.pow_add, ← Nat.pow_add]; congr 2; omega
      have hDb := Nat.mul_pos (Nat.two_pow_pos D) (Nat.two_pow_pos b)
      rw [hs]
      refine ⟨?_, ?_, fun C h => ?_, fun C h => ?_, ?_⟩
      · have : m * 2 ^ q < 2 ^ (L + 1) * 2 ^ q := Nat.mul_lt_mul_of_pos_right a2 (Nat.two_pow_pos q)
        rw [← Nat.pow_add] at this
        have h2 : 2 ^ (L + 1 + q) ≤ 2 ^ 53 := Nat.pow_le_pow_right (by omega) (by omega)
        have h3 : (2 : Nat) ^ 53 = 9007199254740992 := rfl
        omega
      · rcases Nat.eq_zero_or_pos D with h1 | h1
        · exact Or.inl h1
        · have h2 : 4503599627370496 ≤ m * 2 ^ q := by
            have : 2 ^ L * 2 ^ q ≤ m * 2 ^ q := Nat.mul_le_mul_right _ a1
            rw [← Nat.pow_add, show L + q = 52 by omega] at this
            exact this
          exact Or.inr ⟨h2, Nat.mul_le_mul_right _ (Nat.mul_le_mul_right _ h2)⟩
      · rw [Nat.mul_assoc, Nat.mul_assoc C] at h
        exact Nat.le_of_mul_le_mul_right h hDb
      · rw [Nat.mul_assoc, Nat.mul_assoc (m * 2 ^ q)] at h
        exact Nat.le_of_mul_le_mul_right h hDb
      · omega
    · obtain ⟨q, hq⟩ : ∃ q : Nat, (p - e).toNat = q := ⟨_, rfl⟩
      rw [hq, show (e - p).toNat = 0 by omega, Nat.shiftLeft_zero, cut_all _ _ h0]
      have hsc : ∀ C, m * 2 ^ a ≤ C * 2 ^ D * 2 ^ b ↔ m ≤ C * 2 ^ q := by
        intro C
        rw [Nat.mul_assoc, ← Nat.pow_add]
        have := le_scale (m := m) (n := C) (a := a) (b := D + b) (x := 0) (y := q) (by omega)
        rwa [Nat.pow_zero, Nat.mul_one] at this
      have hsc2 : ∀ C, C * 2 ^ D * 2 ^ b ≤ m * 2 ^ a ↔ C * 2 ^ q ≤ m := by
        intro C
        rw [Nat.mul_assoc, ← Nat.pow_add]
        have := le_scale (m := C) (n := m) (a := D + b) (b := a) (x := q) (y := 0) (by omega)
        rwa [Nat.pow_zero, Nat.mul_one] at this
      refine ⟨?_, ?_, fun C h => evn_le ((hsc C).1 h), fun C h => evn_ge ((hsc2 C).1 h), ?_⟩
      · refine evn_le (Nat.le_of_lt (Nat.lt_of_lt_of_le a2 ?_))
        rw [show 9007199254740992 = 2 ^ 53 from rfl, ← Nat.pow_add]
        exact Nat.pow_le_pow_right (by omega) (by omega)
      · rcases Nat.eq_zero_or_pos D with h1 | h1
        · exact Or.inl h1
        · have h2 : 4503599627370496 * 2 ^ q ≤ m := by
            rw [show 4503599627370496 = 2 ^ 52 from rfl, ← Nat.pow_add]
            exact Nat.le_trans (Nat.pow_le_pow_right (by omega) (by omega)) a1
          exact Or.inr ⟨evn_ge h2, (hsc2 _).2 h2⟩
      · obtain ⟨o1, o2⟩ := evn_off m q
        obtain ⟨E, hE⟩ : ∃ E, evn m q = E := ⟨_, rfl⟩
        rw [hE] at o1 o2 ⊢
        have t1 : ∃ k, 2 ^ a = k ∧ 2 ^ D * 2 ^ b = 2 ^ q * k := ⟨2 ^ a, rfl, by rw [← Nat.pow_add, ← Nat.pow_add]; congr 1; omega⟩
        obtain ⟨k, t1, t2⟩ := t1
        rw [t1, Nat.mul_assoc E, t2]
        have o3 := Nat.mul_le_mul_right k o1
        have o4 := Nat.mul_le_mul_right k o2
        constructor <;> grind
theorem near_nearly (s : Bool) {m a b : Nat} {e : Int} (hab : (a : Int) - b = e + 1074) : ∃ r, Ieee.double.nearest s m e = Ieee.double.word s r ∧ Nearly (m * 2 ^ a) (2 ^ b) r := by
  obtain ⟨D, c, h1, h2, _⟩ := near_form s (m := m) hab
  exact ⟨_, h1, D, c, rfl, h2⟩
end Go.Proofs.Ytbinpcoaghpcdaa
