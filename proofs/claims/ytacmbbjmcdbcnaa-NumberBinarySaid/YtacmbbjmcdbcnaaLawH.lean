/-
  The law NumberFloors: its walks.
-/
import Derived.Test.YtacmbbjmcdbcnaaLawG
namespace Go.Proofs.Ytacmbbjmcdbcnaa
open Go.RowKit
/-- What is at most 1 is rounded to at most 1. -/
theorem near_one {X V : Nat} {base : Int} (hb : -1074 ≤ base) (hV : X * 2 ^ (base + 1074).toNat = V) {K : Nat} (hK : K = 1074) (h : V ≤ 2 ^ K) : Ieee.double.nearest false X base ≤ 4607182418800017408 := by
  have e2 : Ieee.double.binade = 4503599627370496 := by decide
  have e3 : Ieee.double.infRung = 9218868437227405312 := by decide
  have e4 : Ieee.double.leastPlace = -1074 := by decide
  have e5 : Ieee.double.fractionBits = 52 := rfl
  obtain ⟨J, hJ⟩ : ∃ J : Nat, J = 1022 := ⟨_, rfl⟩
  have f1 := fmag_make 4503599627370496 J (by omega) (by omega)
  rw [show J * 4503599627370496 + 4503599627370496 = 4607182418800017408 by rw [hJ], show (4503599627370496 : Nat) = 2 ^ 52 from rfl, ← Nat.pow_add, show 52 + J = K by omega] at f1
  rcases Nat.eq_or_lt_of_le h with h1 | h1
  · rw [near_fmag false (r := 4607182418800017408) (by omega) hb (by rw [hV, h1, f1])]
    exact Nat.le_refl _
  · unfold Ieee.Format.nearest
    by_cases h0 : X = 0
    · rw [if_pos h0]; exact Nat.zero_le _
    · rw [if_neg h0, e2, e3, e4, e5]
      obtain ⟨a1, a2⟩ := log2_two X (by omega)
      obtain ⟨L, hL⟩ : ∃ L, X.log2 = L := ⟨_, rfl⟩
      rw [hL] at a1 a2 ⊢
      obtain ⟨b, hbb⟩ : ∃ b, (base + 1074).toNat = b := ⟨_, rfl⟩
      rw [hbb] at hV
      have hlam : L + b < K := by
        have h2 : 2 ^ L * 2 ^ b ≤ X * 2 ^ b := Nat.mul_le_mul_right _ a1
        rw [← Nat.pow_add, hV] at h2
        exact (Nat.pow_lt_pow_iff_right (a := 2) (by omega)).1 (Nat.lt_of_le_of_lt h2 h1)
      dsimp only
      rw [word_false, cut_sgn]
      refine Nat.le_trans (Nat.min_le_left _ _) ?_
      by_cases hl : L + b ≤ 52
      · have e6 : max (base + (L : Int) - (52 : Nat)) (-1074) = -1074 := by omega
        rw [e6, show (-1074 - -1074 : Int).toNat = 0 by omega, show (base - -1074).toNat = b by omega, show (-1074 - base).toNat = 0 by omega, cut_evn _ _ (Nat.zero_le _), Nat.shiftLeft_eq, hV]
        have h3 := evn_exact V 0
        rw [Nat.pow_zero, Nat.mul_one] at h3
        rw [h3, Nat.zero_mul, Nat.zero_add]
        have h4 : V < 9007199254740992 := by
          rw [show (9007199254740992 : Nat) = 2 ^ 53 from rfl]
          rw [← hV]
          have h5 : X * 2 ^ b < 2 ^ (L + 1) * 2 ^ b := Nat.mul_lt_mul_of_pos_right a2 (Nat.two_pow_pos b)
          rw [← Nat.pow_add] at h5
          exact Nat.lt_of_lt_of_le h5 (Nat.pow_le_pow_right (by omega) (by omega))
        omega
      · have e6 : max (base + (L : Int) - (52 : Nat)) (-1074) = base + (L : Int) - 52 := by omega
        rw [e6, show (base + (L : Int) - 52 - -1074).toNat = L + b - 52 by omega]
        have hk : Ieee.Toward.even.cut false (X <<< (base - (base + (L : Int) - 52)).toNat) (base + (L : Int) - 52 - base).toNat ≤ 9007199254740992 := by
          rcases Nat.lt_or_ge L 52 with h6 | h6
          · rw [show (base - (base + (L : Int) - 52)).toNat = 52 - L by omega, show (base + (L : Int) - 52 - base).toNat = 0 by omega, cut_evn _ _ (Nat.zero_le _), Nat.shiftLeft_eq]
            have h3 := evn_exact (X * 2 ^ (52 - L)) 0
            rw [Nat.pow_zero, Nat.mul_one] at h3
            rw [h3]
            have h5 : X * 2 ^ (52 - L) < 2 ^ (L + 1) * 2 ^ (52 - L) := Nat.mul_lt_mul_of_pos_right a2 (Nat.two_pow_pos _)
            rw [← Nat.pow_add, show L + 1 + (52 - L) = 53 by omega] at h5
            have : (2 : Nat) ^ 53 = 9007199254740992 := rfl
            omega
          · rw [show (base - (base + (L : Int) - 52)).toNat = 0 by omega, show (base + (L : Int) - 52 - base).toNat = L - 52 by omega, Nat.shiftLeft_zero, cut_evn _ _ (by rw [hL]; omega)]
            exact (evn_range a1 a2 h6).2
        omega
theorem fmag_one {K : Nat} (hK : K = 1074) : fmag 4607182418800017408 = 2 ^ K := by
  obtain ⟨J, hJ⟩ : ∃ J : Nat, J = 1022 := ⟨_, rfl⟩
  have f1 := fmag_make 4503599627370496 J (by omega) (by omega)
  rw [show J * 4503599627370496 + 4503599627370496 = 4607182418800017408 by rw [hJ], show (4503599627370496 : Nat) = 2 ^ 52 from rfl, ← Nat.pow_add, show 52 + J = K by omega] at f1
  exact f1
/-- A float less its floor: told as a float between 0 and 1. -/
theorem half_spec {s : Bool} {a r : Nat} (ha : a < 9218868437227405312) (hr : r < 9218868437227405312) {K : Nat} (hK : K = 1074)
    (h : (s = false ∧ fmag r ≤ fmag a ∧ fmag a ≤ fmag r + 2 ^ K) ∨ (s = true ∧ fmag a ≤ fmag r ∧ fmag r ≤ fmag a + 2 ^ K)) :
    ∃ d, Ieee.double.sub (Ieee.double.word s a) (Ieee.double.word s r) = some d ∧ d ≤ 4607182418800017408 := by
  obtain ⟨m, i, a1, a2, a3⟩ := read_word s ha
  obtain ⟨n, j, b1, b2, b3⟩ := read_word s hr
  unfold Ieee.Format.sub
  rw [a1, b1]
  simp only [Ieee.Datum.opposite, Ieee.Datum.sum, Option.map_some, signed_eq]
  obtain ⟨base, hbase⟩ : ∃ base, min i j = base := ⟨_, rfl⟩
  rw [hbase]
  have u1 := scale_up (m := m) (i := i) (base := base) (by omega) (by omega)
  have u2 := scale_up (m := n) (i := j) (base := base) (by omega) (by omega)
  rw [← a3] at u1
  rw [← b3] at u2
  obtain ⟨X, hX⟩ : ∃ X, m * 2 ^ (i - base).toNat = X := ⟨_, rfl⟩
  obtain ⟨Y, hY⟩ : ∃ Y, n * 2 ^ (j - base).toNat = Y := ⟨_, rfl⟩
  rw [hX] at u1 ⊢
  rw [hY] at u2 ⊢
  have hP := Nat.two_pow_pos (base + 1074).toNat
  have key : ∃ T : Nat, (if s = true then -(X : Int) else (X : Int)) + (if (!s) = true then -(Y : Int) else (Y : Int)) = (T : Int) ∧ T * 2 ^ (base + 1074).toNat ≤ 2 ^ K := by
    rcases h with ⟨rfl, h1, h2⟩ | ⟨rfl, h1, h2⟩
    · have h3 : Y ≤ X := Nat.le_of_mul_le_mul_right (by rw [u1, u2]; exact h1) hP
      refine ⟨X - Y, by simp; omega, ?_⟩
      rw [Nat.sub_mul, u1, u2]; omega
    · have h3 : X ≤ Y := Nat.le_of_mul_le_mul_right (by rw [u1, u2]; exact h1) hP
      refine ⟨Y - X, by simp; omega, ?_⟩
      rw [Nat.sub_mul, u1, u2]; omega
  obtain ⟨T, hT, hT2⟩ := key
  rw [hT, Int.natAbs_natCast]
  have hs : (if (T : Int) = 0 then s && !s else decide ((T : Int) < 0)) = false := by
    split
    · cases s <;> rfl
    · exact decide_eq_false (by omega)
  rw [hs]
  exact ⟨_, rfl, near_one (by omega) rfl hK hT2⟩
/-- A whole float and 1: the sign stays, or nought is left. -/
theorem one_more {s : Bool} {r y : Nat} (hr : r < 9218868437227405312) {K : Nat} (hK : K = 1074) (hs : s = true → 2 ^ K ≤ fmag r) (h : Ieee.double.add (Ieee.double.word s r) 4607182418800017408 = some y) : frank (Ieee.double.word s (rung y)) = frank y := by
  obtain ⟨m, i, a1, a2, a3⟩ := read_word s hr
  obtain ⟨n, j, b1, b2, b3⟩ := read_word false (r := 4607182418800017408) (by omega)
  rw [fmag_one hK] at b3
  unfold Ieee.Format.add at h
  rw [a1, show Ieee.double.read 4607182418800017408 = Ieee.double.read (Ieee.double.word false 4607182418800017408) from rfl, b1] at h
  simp only [Ieee.Datum.sum, Option.map_some, signed_eq, Bool.false_eq_true, if_false] at h
  obtain ⟨base, hbase⟩ : ∃ base, min i j = base := ⟨_, rfl⟩
  rw [hbase] at h
  have u1 := scale_up (m := m) (i := i) (base := base) (by omega) (by omega)
  have u2 := scale_up (m := n) (i := j) (base := base) (by omega) (by omega)
  rw [← a3] at u1
  rw [← b3] at u2
  obtain ⟨X, hX⟩ : ∃ X, m * 2 ^ (i - base).toNat = X := ⟨_, rfl⟩
  obtain ⟨Y, hY⟩ : ∃ Y, n * 2 ^ (j - base).toNat = Y := ⟨_, rfl⟩
  rw [hX] at u1 h
  rw [hY] at u2 h
  have hP := Nat.two_pow_pos (base + 1074).toNat
  have word_back : ∀ (t : Bool) (q : Nat), q ≤ 9218868437227405312 → Ieee.double.word t (rung (Ieee.double.word t q)) = Ieee.double.word t q := fun t q hq => by rw [(word_rung t (r := q) (by omega)).1]
  have h2 := Option.some.inj h
  cases s
  · have hsg : (if (if false = true then -(X : Int) else (X : Int)) + (Y : Int) = 0 then false && false else decide ((if false = true then -(X : Int) else (X : Int)) + (Y : Int) < 0)) = false := by
      simp; omega
    rw [hsg] at h2
    obtain ⟨q, q1, q2⟩ := near_rung false ((if false = true then -(X : Int) else (X : Int)) + (Y : Int)).natAbs base
    have h3 : y = Ieee.double.word false q := by rw [← q1]; exact h2.symm
    rw [h3, word_back false q q2]
  · have h3 : Y ≤ X := Nat.le_of_mul_le_mul_right (by rw [u1, u2]; exact hs rfl) hP
    by_cases h4 : X = Y
    · have hz : (if true = true then -(X : Int) else (X : Int)) + (Y : Int) = 0 := by simp; omega
      rw [hz] at h2
      have h5 : y = 0 := by
        rw [← h2]
        show Ieee.double.nearest _ 0 base = 0
        unfold Ieee.Format.nearest
        rw [if_pos rfl]
        rfl
      rw [h5]; decide
    · have hsg : (if (if true = true then -(X : Int) else (X : Int)) + (Y : Int) = 0 then true && false else decide ((if true = true then -(X : Int) else (X : Int)) + (Y : Int) < 0)) = true := by
        rw [if_neg (by simp; omega)]
        exact decide_eq_true (by simp; omega)
      rw [hsg] at h2
      obtain ⟨q, q1, q2⟩ := near_rung true ((if true = true then -(X : Int) else (X : Int)) + (Y : Int)).natAbs base
      have h5 : y = Ieee.double.word true q := by rw [← q1]; exact h2.symm
      rw [h5, word_back true q q2]
def ole (x y : Nat) : Bool := FloatKind.f64.format.order x y == some .lt || FloatKind.f64.format.order x y == some .eq
theorem ole_run (x y : Nat) : (FloatKind.f64.format.order x y == some .lt || FloatKind.f64.format.order x y == some .eq) = ole x y := rfl
theorem ole_of {x y : Nat} (hx : fnan x = false) (hy : fnan y = false) (h : frank x ≤ frank y) : ole x y = true := by
  unfold fnan at hx hy
  have hx := of_decide_eq_false hx
  have hy := of_decide_eq_false hy
  unfold ole
  rw [show FloatKind.f64.format.order x y = some (compare (frank x) (frank y)) from order_eq (by omega) (by omega), cmp_lt, cmp_eq]
  simp; omega
theorem oeq_of {x y : Nat} (hx : fnan x = false) (hy : fnan y = false) (h : frank x = frank y) : oeq x y = true := by
  unfold fnan at hx hy
  have hx := of_decide_eq_false hx
  have hy := of_decide_eq_false hy
  unfold oeq
  rw [show FloatKind.f64.format.order x y = some (compare (frank x) (frank y)) from order_eq (by omega) (by omega), cmp_eq]
  exact decide_eq_true h
end Go.Proofs.Ytacmbbjmcdbcnaa
