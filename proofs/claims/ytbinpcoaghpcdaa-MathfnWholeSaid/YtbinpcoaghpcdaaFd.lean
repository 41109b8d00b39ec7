/-
  Plain lemmas on floats of 64 bits: bounds of sums, products and quotients, and how far rounding moves them. No program in it.
-/
import Derived.Test.YtbinpcoaghpcdaaFc
namespace Go.Proofs.Ytbinpcoaghpcdaa
theorem fmag_top {K : Nat} (hK : K = 2098) : fmag 9218868437227405312 = 2 ^ K := by
  obtain ⟨d, hd⟩ : ∃ d : Nat, d = 2046 := ⟨_, rfl⟩
  have h := fmag_make 4503599627370496 d (by omega) (by omega)
  rw [show d * 4503599627370496 + 4503599627370496 = 9218868437227405312 by omega] at h
  rw [h, show (4503599627370496 : Nat) = 2 ^ 52 from rfl, ← Nat.pow_add]
  have e : 52 + d = K := by omega
  rw [e]
theorem fmag_fin {r K : Nat} (hK : K = 2098) : fmag r < 2 ^ K ↔ r < 9218868437227405312 := by
  rw [← fmag_top hK]; exact fmag_lt
/-- A word whose amount is 2^n at most, n not above the greatest float's. -/
structure Bd (n x : Nat) : Prop where
  wd : x < 18446744073709551616
  le : mg x ≤ 2 ^ n
  tp : n ≤ 2097
theorem Bd.fin {n x : Nat} (h : Bd n x) : Fin64 x := by
  obtain ⟨K, hK⟩ : ∃ K : Nat, K = 2098 := ⟨_, rfl⟩
  exact ⟨h.wd, (fmag_fin hK).1 (Nat.lt_of_le_of_lt h.le (Nat.pow_lt_pow_right (by omega) (by have := h.tp; omega)))⟩
theorem Bd.mono {n k x : Nat} (h : Bd n x) (hn : n ≤ k) (hk : k ≤ 2097) : Bd k x := ⟨h.wd, Nat.le_trans h.le (Nat.pow_le_pow_right (by omega) hn), hk⟩
/-- A rounded number is no greater than M * 2^j, if it wasn't before. -/
theorem nearly_cap {u v r M j : Nat} (hv : 0 < v) (h : Nearly u v r) (hM : M < 9007199254740992) (hu : u ≤ M * 2 ^ j * v) : fmag r ≤ M * 2 ^ j := by
  obtain ⟨R, hR⟩ := rep_of (N := M * 2 ^ j) rfl hM
  rw [← hR] at hu ⊢
  have h1 := nearly_le hv h hu
  rcases Nat.eq_or_lt_of_le h1 with h2 | h2
  · rw [h2]; exact Nat.le_refl _
  · exact Nat.le_of_lt (fmag_step h2)
theorem nearly_floor {u v r M j K : Nat} (h : Nearly u v r) (hM : M < 9007199254740992) (hK : K = 2098) (hj : M * 2 ^ j < 2 ^ K) (hu : M * 2 ^ j * v ≤ u) : M * 2 ^ j ≤ fmag r := by
  obtain ⟨R, hR⟩ := rep_of (N := M * 2 ^ j) rfl hM
  rw [← hR] at hu hj ⊢
  have hR2 := (fmag_fin hK).1 hj
  have h1 := nearly_ge h (by omega) hu
  rcases Nat.eq_or_lt_of_le h1 with h2 | h2
  · rw [h2]; exact Nat.le_refl _
  · exact Nat.le_of_lt (fmag_step h2)
def mulF (x y : Nat) : Nat := (Ieee.double.mul x y).getD 0
def addF (x y : Nat) : Nat := (Ieee.double.add x y).getD 0
def subF (x y : Nat) : Nat := (Ieee.double.sub x y).getD 0
def divF (x y : Nat) : Nat := (Ieee.double.div x y).getD 0
theorem mulF_core {x y K : Nat} (hx : Fin64 x) (hy : Fin64 y) (hK : K = 1074) : Ieee.double.mul x y = some (mulF x y) ∧ mulF x y < 18446744073709551616 ∧ fneg (mulF x y) = (fneg x ^^ fneg y) ∧ Nearly (mg x * mg y) (2 ^ K) (rung (mulF x y)) := by
  obtain ⟨r, h1, h2⟩ := mul_core hx hy hK
  have : mulF x y = r := by unfold mulF; rw [h1]; rfl
  rw [this]; exact ⟨h1, h2⟩
theorem addF_core {x y : Nat} (hx : Fin64 x) (hy : Fin64 y) : Ieee.double.add x y = some (addF x y) ∧ addF x y < 18446744073709551616 ∧ fneg (addF x y) = (if sv x + sv y = 0 then fneg x && fneg y else decide (sv x + sv y < 0)) ∧ Nearly (sv x + sv y).natAbs 1 (rung (addF x y)) := by
  obtain ⟨r, h1, h2⟩ := add_core hx hy
  have : addF x y = r := by unfold addF; rw [h1]; rfl
  rw [this]; exact ⟨h1, h2⟩
theorem subF_core {x y : Nat} (hx : Fin64 x) (hy : Fin64 y) : Ieee.double.sub x y = some (subF x y) ∧ subF x y < 18446744073709551616 ∧ fneg (subF x y) = (if sv x - sv y = 0 then fneg x && !fneg y else decide (sv x - sv y < 0)) ∧ Nearly (sv x - sv y).natAbs 1 (rung (subF x y)) := by
  obtain ⟨r, h1, h2⟩ := sub_core hx hy
  have : subF x y = r := by unfold subF; rw [h1]; rfl
  rw [this]; exact ⟨h1, h2⟩
theorem divF_core {x y K : Nat} (hx : Fin64 x) (hy : Fin64 y) (hy0 : 0 < rung y) (hK : K = 1074) : Ieee.double.div x y = some (divF x y) ∧ divF x y < 18446744073709551616 ∧ fneg (divF x y) = (fneg x ^^ fneg y) ∧ Nearly (mg x * 2 ^ K) (mg y) (rung (divF x y)) := by
  obtain ⟨r, h1, h2⟩ := div_core hx hy hy0 hK
  have : divF x y = r := by unfold divF; rw [h1]; rfl
  rw [this]; exact ⟨h1, h2⟩
theorem sv_abs (x : Nat) : (sv x).natAbs = mg x := by
  unfold sv
  split <;> omega
theorem mulF_B {a b c x y : Nat} (hx : Bd a x) (hy : Bd b y) (h : a + b ≤ c + 1074) (hc : c ≤ 2097) : Ieee.double.mul x y = some (mulF x y) ∧ Bd c (mulF x y) := by
  obtain ⟨K, hK⟩ : ∃ K : Nat, K = 1074 := ⟨_, rfl⟩
  rw [← hK] at h
  obtain ⟨h1, h2, _, h4⟩ := mulF_core hx.fin hy.fin hK
  refine ⟨h1, h2, ?_, hc⟩
  have := nearly_cap (M := 1) (j := c) (Nat.two_pow_pos K) h4 (by omega) (by
    rw [Nat.one_mul, ← Nat.pow_add]
    exact Nat.le_trans (Nat.mul_le_mul hx.le hy.le) (by rw [← Nat.pow_add]; exact Nat.pow_le_pow_right (by omega) h))
  rwa [Nat.one_mul] at this
theorem addF_B {a x y : Nat} (hx : Bd a x) (hy : Bd a y) (hc : a ≤ 2096) : Ieee.double.add x y = some (addF x y) ∧ Bd (a + 1) (addF x y) := by
  obtain ⟨h1, h2, _, h4⟩ := addF_core hx.fin hy.fin
  refine ⟨h1, h2, ?_, by omega⟩
  have := nearly_cap (M := 1) (j := a + 1) (by omega) h4 (by omega) (by
    have e1 := hx.le; have e2 := hy.le
    have e3 := sv_abs x; have e4 := sv_abs y
    rw [Nat.one_mul, Nat.mul_one, Nat.pow_succ]; omega)
  rwa [Nat.one_mul] at this
theorem subF_B {a x y : Nat} (hx : Bd a x) (hy : Bd a y) (hc : a ≤ 2096) : Ieee.double.sub x y = some (subF x y) ∧ Bd (a + 1) (subF x y) := by
  obtain ⟨h1, h2, _, h4⟩ := subF_core hx.fin hy.fin
  refine ⟨h1, h2, ?_, by omega⟩
  have := nearly_cap (M := 1) (j := a + 1) (by omega) h4 (by omega) (by
    have e1 := hx.le; have e2 := hy.le
    have e3 := sv_abs x; have e4 := sv_abs y
    rw [Nat.one_mul, Nat.mul_one, Nat.pow_succ]; omega)
  rwa [Nat.one_mul] at this
theorem divF_B {a b c x y : Nat} (hx : Bd a x) (hy : Fin64 y) (hb : 2 ^ b ≤ mg y) (h : a + 1074 ≤ c + b) (hc : c ≤ 2097) : Ieee.double.div x y = some (divF x y) ∧ Bd c (divF x y) := by
  obtain ⟨K, hK⟩ : ∃ K : Nat, K = 1074 := ⟨_, rfl⟩
  rw [← hK] at h
  have hp := Nat.two_pow_pos b
  have hy0 : 0 < rung y := fmag_pos.1 (show 0 < fmag (rung y) from by unfold mg at hb; omega)
  obtain ⟨h1, h2, _, h4⟩ := divF_core hx.fin hy hy0 hK
  refine ⟨h1, h2, ?_, hc⟩
  have := nearly_cap (M := 1) (j := c) (by omega) h4 (by omega) (by
    rw [Nat.one_mul]
    refine Nat.le_trans (Nat.mul_le_mul_right _ hx.le) (Nat.le_trans ?_ (Nat.mul_le_mul_left _ hb))
    rw [← Nat.pow_add, ← Nat.pow_add]; exact Nat.pow_le_pow_right (by omega) h)
  rwa [Nat.one_mul] at this
/-- How far rounding moves a number. -/
theorem nearly_off {u v r : Nat} (h : Nearly u v r) (hr : r < 9218868437227405312) : 9007199254740992 * (fmag r * v) ≤ 9007199254740992 * u + u + 4503599627370496 * v ∧ 9007199254740992 * u ≤ 9007199254740992 * (fmag r * v) + u + 4503599627370496 * v := by
  obtain ⟨D, c, h1, h2, h3, h4, h5, h6, h7⟩ := h
  have h8 : r = D * 4503599627370496 + c := by
    rcases Nat.le_total (D * 4503599627370496 + c) 9218868437227405312 with h | h
    · rw [Nat.min_eq_left h] at h1; exact h1
    · rw [Nat.min_eq_right h] at h1; omega
  have h9 : fmag r = c * 2 ^ D := by
    rcases Nat.eq_zero_or_pos D with hD | hD
    · subst hD
      rw [Nat.pow_zero, Nat.mul_one, h8, Nat.zero_mul, Nat.zero_add]
      rcases Nat.eq_or_lt_of_le h2 with h | h
      · rw [h]; decide
      · exact fmag_low h
    · obtain ⟨hc, _⟩ := h3.resolve_left (by omega)
      rcases Nat.eq_or_lt_of_le h2 with h | h
      · rw [h8, h, show D * 4503599627370496 + 9007199254740992 = (D + 1) * 4503599627370496 + 4503599627370496 by omega, fmag_make _ _ (by omega) (by omega), Nat.pow_succ, show 9007199254740992 = 4503599627370496 * 2 by omega, Nat.mul_assoc, Nat.mul_comm 2]
      · rw [h8, fmag_make _ _ hc h]
  rw [h9]
  have h10 : 4503599627370496 * (2 ^ D * v) ≤ u + 4503599627370496 * v := by
    rcases h3 with h | ⟨_, h⟩
    · rw [h, Nat.pow_zero, Nat.one_mul]; omega
    · rw [Nat.mul_assoc] at h; omega
  generalize 2 ^ D * v = W at *
  generalize c * 2 ^ D * v = Z at *
  omega
theorem sv_sgn {x : Nat} {T : Int} {s : Bool} (h : fneg x = (if T = 0 then s else decide (T < 0))) (h0 : T = 0 → mg x = 0) : (T < 0 → sv x = -(mg x : Int)) ∧ (0 ≤ T → sv x = (mg x : Int)) := by
  unfold sv
  refine ⟨fun h1 => ?_, fun h1 => ?_⟩
  · have hs : fneg x = true := by rw [h, if_neg (by omega), decide_eq_true h1]
    rw [if_pos hs]
  · by_cases h2 : T = 0
    · rw [h0 h2]; simp
    · have hs : fneg x = false := by rw [h, if_neg h2, decide_eq_false (by omega)]
      rw [hs, if_neg (by simp)]
theorem nearly_zero {v r : Nat} (hv : 0 < v) (h : Nearly 0 v r) : fmag r = 0 := by
  have := nearly_cap (M := 0) (j := 0) hv h (by omega) (by omega)
  omega
/-- A sum's number, told up to its rounding. -/
theorem sum_off {T : Int} {r : Nat} {s : Bool} (hs : fneg r = (if T = 0 then s else decide (T < 0))) (hn : Nearly T.natAbs 1 (rung r)) (hr : rung r < 9218868437227405312) (W : Int) (hW : -W ≤ T ∧ T ≤ W) :
    9007199254740992 * (sv r - T) ≤ W + 4503599627370496 ∧ -(W + 4503599627370496) ≤ 9007199254740992 * (sv r - T) := by
  have h0 : T = 0 → mg r = 0 := fun h => by rw [h] at hn; exact nearly_zero (by omega) hn
  obtain ⟨a, b⟩ := sv_sgn hs h0
  obtain ⟨c, d⟩ := nearly_off hn hr
  rw [Nat.mul_one] at c d
  have e : fmag (rung r) = mg r := rfl
  rw [e] at c d
  rcases Int.lt_or_le T 0 with h | h
  · rw [a h]; omega
  · rw [b h]; omega
theorem addF_off {x y : Nat} (hx : Fin64 x) (hy : Fin64 y) (hr : rung (addF x y) < 9218868437227405312) (W : Int) (hW : -W ≤ sv x + sv y ∧ sv x + sv y ≤ W) :
    9007199254740992 * (sv (addF x y) - (sv x + sv y)) ≤ W + 4503599627370496 ∧ -(W + 4503599627370496) ≤ 9007199254740992 * (sv (addF x y) - (sv x + sv y)) := by
  obtain ⟨_, _, h3, h4⟩ := addF_core hx hy
  exact sum_off h3 h4 hr W hW
theorem subF_off {x y : Nat} (hx : Fin64 x) (hy : Fin64 y) (hr : rung (subF x y) < 9218868437227405312) (W : Int) (hW : -W ≤ sv x - sv y ∧ sv x - sv y ≤ W) :
    9007199254740992 * (sv (subF x y) - (sv x - sv y)) ≤ W + 4503599627370496 ∧ -(W + 4503599627370496) ≤ 9007199254740992 * (sv (subF x y) - (sv x - sv y)) := by
  obtain ⟨_, _, h3, h4⟩ := subF_core hx hy
  exact sum_off h3 h4 hr W hW
theorem mulF_off {x y K : Nat} (hx : Fin64 x) (hy : Fin64 y) (hK : K = 1074) (hr : rung (mulF x y) < 9218868437227405312) (W : Int) (hW : -W ≤ sv x * sv y ∧ sv x * sv y ≤ W) :
    9007199254740992 * (sv (mulF x y) * (2 ^ K : Nat) - sv x * sv y) ≤ W + 4503599627370496 * (2 ^ K : Nat) ∧ -(W + 4503599627370496 * (2 ^ K : Nat)) ≤ 9007199254740992 * (sv (mulF x y) * (2 ^ K : Nat) - sv x * sv y) := by
  obtain ⟨_, _, h3, h4⟩ := mulF_core hx hy hK
  obtain ⟨c, d⟩ := nearly_off h4 hr
  have e : fmag (rung (mulF x y)) = mg (mulF x y) := rfl
  rw [e] at c d
  generalize 2 ^ K = P at *
  obtain ⟨Z, hZ⟩ : ∃ Z, mg (mulF x y) * P = Z := ⟨_, rfl⟩
  obtain ⟨Y, hY⟩ : ∃ Y, mg x * mg y = Y := ⟨_, rfl⟩
  rw [hZ, hY] at c d
  have e1 : sv (mulF x y) * (P : Int) = if (fneg x ^^ fneg y) = true then -(Z : Int) else (Z : Int) := by
    rw [← hZ]; unfold sv; rw [h3]
    cases (fneg x ^^ fneg y) <;> simp <;> grind
  have e2 : sv x * sv y = if (fneg x ^^ fneg y) = true then -(Y : Int) else (Y : Int) := by
    rw [← hY]; unfold sv
    cases fneg x <;> cases fneg y <;> simp <;> grind
  rw [e2] at hW
  rw [e1, e2]
  cases (fneg x ^^ fneg y)
  · simp only [Bool.false_eq_true, if_false] at hW ⊢; omega
  · simp only [if_true] at hW ⊢; omega
end Go.Proofs.Ytbinpcoaghpcdaa
