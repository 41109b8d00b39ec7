/-
  Plain lemmas on floats of 64 bits: sums, differences, products and quotients of finite floats, and how great they can be. No program in it.
-/
import Derived.Test.YtbinpcoaghpcdaaFb
import Derived.Test.YtbinpcoaghpcdaaFmod
namespace Go.Proofs.Ytbinpcoaghpcdaa
/-- A word that is a finite float. -/
def Fin64 (x : Nat) : Prop := x < 18446744073709551616 ∧ rung x < 9218868437227405312
/-- The amount of a word, in units of the least float. -/
def mg (x : Nat) : Nat := fmag (rung x)
/-- A word's number, in units of the least float. -/
def sv (x : Nat) : Int := if fneg x = true then -(mg x : Int) else (mg x : Int)
theorem read_fin64 {x : Nat} (h : Fin64 x) : ∃ m e, Ieee.double.read x = .number (fneg x) m e ∧ -1074 ≤ e ∧ mg x = m * 2 ^ (e + 1074).toNat := read_num h.2
theorem mul_core {x y K : Nat} (hx : Fin64 x) (hy : Fin64 y) (hK : K = 1074) : ∃ r, Ieee.double.mul x y = some r ∧ r < 18446744073709551616 ∧ fneg r = (fneg x ^^ fneg y) ∧ Nearly (mg x * mg y) (2 ^ K) (rung r) := by
  obtain ⟨m, i, a1, a2, a3⟩ := read_fin64 hx
  obtain ⟨n, j, b1, b2, b3⟩ := read_fin64 hy
  unfold Ieee.Format.mul
  rw [a1, b1]
  simp only [Ieee.Datum.product, Option.map_some]
  obtain ⟨r, h1, h2⟩ := near_nearly (fneg x ^^ fneg y) (m := m * n) (a := (i + 1074).toNat + (j + 1074).toNat) (b := K) (e := i + j) (by omega)
  obtain ⟨c1, c2, c3⟩ := word_rung (fneg x ^^ fneg y) (r := r) (Nat.lt_of_le_of_lt (nearly_inf h2) (by decide))
  refine ⟨_, rfl, ?_⟩
  show Ieee.double.nearest _ _ _ < _ ∧ fneg (Ieee.double.nearest _ _ _) = _ ∧ Nearly _ _ (rung (Ieee.double.nearest _ _ _))
  rw [h1, c1, c2]
  refine ⟨c3, rfl, ?_⟩
  rw [a3, b3, show m * 2 ^ (i + 1074).toNat * (n * 2 ^ (j + 1074).toNat) = m * n * 2 ^ ((i + 1074).toNat + (j + 1074).toNat) by rw [Nat.pow_add]; grind]
  exact h2
theorem sum_core (s t : Bool) {m n : Nat} {i j : Int} (hi : -1074 ≤ i) (hj : -1074 ≤ j) {S T : Nat} (hS : S = m * 2 ^ (i + 1074).toNat) (hT : T = n * 2 ^ (j + 1074).toNat) :
    ∃ d, Ieee.Datum.sum (.number s m i) (.number t n j) = some d ∧ ∃ r, Ieee.double.write d = Ieee.double.word (if (if s = true then -(S : Int) else (S : Int)) + (if t = true then -(T : Int) else (T : Int)) = 0 then s && t else decide ((if s = true then -(S : Int) else (S : Int)) + (if t = true then -(T : Int) else (T : Int)) < 0)) r ∧
      Nearly ((if s = true then -(S : Int) else (S : Int)) + (if t = true then -(T : Int) else (T : Int))).natAbs (2 ^ 0) r := by
  refine ⟨_, rfl, ?_⟩
  obtain ⟨base, hbase⟩ : ∃ base, min i j = base := ⟨_, rfl⟩
  rw [hbase]
  have u1 := scale_up (m := m) (i := i) (base := base) (by omega) (by omega)
  have u2 := scale_up (m := n) (i := j) (base := base) (by omega) (by omega)
  rw [← hS] at u1
  rw [← hT] at u2
  simp only [signed_eq]
  obtain ⟨X, hX⟩ : ∃ X, m * 2 ^ (i - base).toNat = X := ⟨_, rfl⟩
  obtain ⟨Y, hY⟩ : ∃ Y, n * 2 ^ (j - base).toNat = Y := ⟨_, rfl⟩
  rw [hX] at u1 ⊢
  rw [hY] at u2 ⊢
  obtain ⟨P, hP⟩ : ∃ P, 2 ^ (base + 1074).toNat = P := ⟨_, rfl⟩
  have hP0 : 0 < P := by rw [← hP]; exact Nat.two_pow_pos _
  rw [hP] at u1 u2
  obtain ⟨Z, hZ⟩ : ∃ Z, (if s = true then -(X : Int) else (X : Int)) + (if t = true then -(Y : Int) else (Y : Int)) = Z := ⟨_, rfl⟩
  rw [hZ]
  have key : (if s = true then -(S : Int) else (S : Int)) + (if t = true then -(T : Int) else (T : Int)) = Z * P := by
    rw [← hZ, ← u1, ← u2]
    cases s <;> cases t <;> simp only [if_true, Bool.false_eq_true, if_false] <;> grind
  rw [key]
  have hz0 : Z * (P : Int) = 0 ↔ Z = 0 := ⟨fun h => (Int.mul_eq_zero.1 h).resolve_right (by omega), fun h => by rw [h, Int.zero_mul]⟩
  have hzn : Z * (P : Int) < 0 ↔ Z < 0 := ⟨fun h => by
      rcases Int.lt_or_le Z 0 with h1 | h1
      · exact h1
      · have := Int.mul_nonneg h1 (show (0 : Int) ≤ (P : Int) by omega); omega, fun h => Int.mul_neg_of_neg_of_pos h (by omega)⟩
  simp only [hz0, hzn]
  obtain ⟨r, h1, h2⟩ := near_nearly (if Z = 0 then s && t else decide (Z < 0)) (m := Z.natAbs) (a := (base + 1074).toNat) (b := 0) (e := base) (by omega)
  refine ⟨r, h1, ?_⟩
  rw [hP] at h2
  rw [show (Z * (P : Int)).natAbs = Z.natAbs * P by rw [Int.natAbs_mul, Int.natAbs_natCast]]
  exact h2
theorem add_core {x y : Nat} (hx : Fin64 x) (hy : Fin64 y) : ∃ r, Ieee.double.add x y = some r ∧ r < 18446744073709551616 ∧ fneg r = (if sv x + sv y = 0 then fneg x && fneg y else decide (sv x + sv y < 0)) ∧ Nearly (sv x + sv y).natAbs (2 ^ 0) (rung r) := by
  obtain ⟨m, i, a1, a2, a3⟩ := read_fin64 hx
  obtain ⟨n, j, b1, b2, b3⟩ := read_fin64 hy
  obtain ⟨d, c1, r, c2, c3⟩ := sum_core (fneg x) (fneg y) a2 b2 a3 b3
  obtain ⟨e1, e2, e3⟩ := word_rung (if (if fneg x = true then -(mg x : Int) else (mg x : Int)) + (if fneg y = true then -(mg y : Int) else (mg y : Int)) = 0 then fneg x && fneg y else decide ((if fneg x = true then -(mg x : Int) else (mg x : Int)) + (if fneg y = true then -(mg y : Int) else (mg y : Int)) < 0)) (r := r) (Nat.lt_of_le_of_lt (nearly_inf c3) (by decide))
  refine ⟨Ieee.double.write d, by unfold Ieee.Format.add; rw [a1, b1, c1]; rfl, ?_⟩
  rw [c2, e1, e2]
  exact ⟨e3, rfl, c3⟩
theorem sub_core {x y : Nat} (hx : Fin64 x) (hy : Fin64 y) : ∃ r, Ieee.double.sub x y = some r ∧ r < 18446744073709551616 ∧ fneg r = (if sv x - sv y = 0 then fneg x && !fneg y else decide (sv x - sv y < 0)) ∧ Nearly (sv x - sv y).natAbs (2 ^ 0) (rung r) := by
  obtain ⟨m, i, a1, a2, a3⟩ := read_fin64 hx
  obtain ⟨n, j, b1, b2, b3⟩ := read_fin64 hy
  obtain ⟨d, c1, r, c2, c3⟩ := sum_core (fneg x) (!fneg y) a2 b2 a3 b3
  have key : (if fneg x = true then -(mg x : Int) else (mg x : Int)) + (if (!fneg y) = true then -(mg y : Int) else (mg y : Int)) = sv x - sv y := by
    unfold sv
    cases fneg x <;> cases fneg y <;> simp <;> omega
  rw [key] at c2 c3
  obtain ⟨e1, e2, e3⟩ := word_rung (if sv x - sv y = 0 then fneg x && !fneg y else decide (sv x - sv y < 0)) (r := r) (Nat.lt_of_le_of_lt (nearly_inf c3) (by decide))
  refine ⟨Ieee.double.write d, by unfold Ieee.Format.sub; rw [a1, b1]; simp only [Ieee.Datum.opposite]; rw [c1]; rfl, ?_⟩
  rw [c2, e1, e2]
  exact ⟨e3, rfl, c3⟩
/-- The quotient's digits, its last one told as odd where anything is left. -/
theorem quot_near {N n q g a c D b : Nat} (hn : 0 < n) (hq : q = 2 * (N / n) + (N % n != 0).toNat) (hg : D + b = a + 2 + g) (h : NearlyAt (q * 2 ^ a) (2 ^ b) D c) : NearlyAt (2 * N * 2 ^ a) (2 ^ b * n) D c := by
  obtain ⟨h1, h2, h3, h4, h5, h6⟩ := h
  have e1 := Nat.div_add_mod N n
  have e2 := Nat.mod_lt N hn
  obtain ⟨Q, hQ⟩ : ∃ Q, N / n = Q := ⟨_, rfl⟩
  obtain ⟨t, ht⟩ : ∃ t, N % n = t := ⟨_, rfl⟩
  rw [hQ, ht] at hq e1
  rw [ht] at e2
  obtain ⟨P, hP⟩ : ∃ P, 2 ^ a = P := ⟨_, rfl⟩
  have hP0 : 0 < P := by rw [← hP]; exact Nat.two_pow_pos _
  obtain ⟨G, hG⟩ : ∃ G, 2 ^ g = G := ⟨_, rfl⟩
  have hDb : 2 ^ D * 2 ^ b = 4 * G * P := by rw [← Nat.pow_add, hg, Nat.pow_add, Nat.pow_add, hP, hG]; show P * 4 * G = _; grind
  have hC : ∀ C, C * 2 ^ D * 2 ^ b = 4 * (C * G) * P := by intro C; rw [Nat.mul_assoc, hDb]; grind
  have hCn : ∀ C, C * 2 ^ D * (2 ^ b * n) = 4 * (C * G) * n * P := by intro C; rw [← Nat.mul_assoc, hC]; grind
  have hDn : 2 ^ D * (2 ^ b * n) = 4 * G * n * P := by rw [← Nat.mul_assoc, hDb]; grind
  unfold NearlyAt
  simp only [hCn, hDn]
  simp only [hC, hDb, hP] at h2 h3 h4 h5 h6 ⊢
  have b1 : (t != 0).toNat ≤ 1 := Bool.toNat_le _
  have b2 : (t != 0).toNat = 0 → t = 0 := by
    intro h
    rcases Nat.eq_zero_or_pos t with h0 | h0
    · exact h0
    · rw [show (t != 0) = true from by rw [bne_iff_ne]; omega] at h
      cases h
  have b3 : t = 0 → (t != 0).toNat = 0 := by intro h; rw [h]; rfl
  generalize (t != 0).toNat = z at *
  -- the same for whole numbers L
  have up : ∀ L, N ≤ 2 * L * n → q ≤ 4 * L := by
    intro L hL
    have h7 : Q ≤ 2 * L := by
      rcases Nat.lt_or_ge (2 * L) Q with h | h
      · have : (2 * L + 1) * n ≤ Q * n := Nat.mul_le_mul_right _ h
        rw [Nat.mul_comm Q] at this; rw [Nat.add_mul] at this; omega
      · exact h
    rcases Nat.eq_or_lt_of_le h7 with h8 | h8
    · have : t = 0 := by rw [h8, Nat.mul_comm n] at e1; omega
      have := b3 this; omega
    · omega
  have dn : ∀ L, 2 * L * n ≤ N → 4 * L ≤ q := by
    intro L hL
    have h7 : 2 * L ≤ Q := by
      rcases Nat.lt_or_ge Q (2 * L) with h | h
      · have : (Q + 1) * n ≤ 2 * L * n := Nat.mul_le_mul_right _ h
        rw [Nat.add_mul, Nat.mul_comm Q] at this; omega
      · exact h
    omega
  have up' : ∀ L, q ≤ 4 * L → N ≤ 2 * L * n := by
    intro L hL
    have h7 : Q ≤ 2 * L := by omega
    rcases Nat.eq_or_lt_of_le h7 with h8 | h8
    · have h9 : t = 0 := b2 (by omega)
      rw [h8, h9, Nat.mul_comm n] at e1; omega
    · have : (Q + 1) * n ≤ 2 * L * n := Nat.mul_le_mul_right _ h8
      rw [Nat.add_mul, Nat.mul_comm Q] at this; omega
  have dn' : ∀ L, 4 * L ≤ q → 2 * L * n ≤ N := by
    intro L hL
    have h7 : 2 * L ≤ Q := by omega
    have : 2 * L * n ≤ Q * n := Nat.mul_le_mul_right _ h7
    rw [Nat.mul_comm Q] at this; omega
  have sc : ∀ L, 4 * L * n * P = 2 * (2 * L * n) * P := by intro L; grind
  simp only [sc]
  have cc : ∀ x y, 2 * x * P ≤ 2 * y * P ↔ x ≤ y := fun x y => ⟨fun h => by have := Nat.le_of_mul_le_mul_right h hP0; omega, fun h => Nat.mul_le_mul_right _ (by omega)⟩
  have cq : ∀ L, q * P ≤ 4 * L * P ↔ q ≤ 4 * L := fun L => ⟨fun h => Nat.le_of_mul_le_mul_right h hP0, fun h => Nat.mul_le_mul_right _ h⟩
  have cq' : ∀ L, 4 * L * P ≤ q * P ↔ 4 * L ≤ q := fun L => ⟨fun h => Nat.le_of_mul_le_mul_right h hP0, fun h => Nat.mul_le_mul_right _ h⟩
  refine ⟨h1, ?_, fun C h => h3 C ((cq _).2 (up _ ((cc _ _).1 h))), fun C h => h4 C ((cq' _).2 (dn _ ((cc _ _).1 h))), ?_, ?_⟩
  · rcases h2 with h2 | ⟨h2, h7⟩
    · exact Or.inl h2
    · exact Or.inr ⟨h2, (cc _ _).2 (dn' _ ((cq' _).1 h7))⟩
  · -- 2 * c units less half a unit
    have h7 : 2 * (4 * (c * G)) ≤ 2 * q + 4 * G := Nat.le_of_mul_le_mul_right (by rw [Nat.add_mul, Nat.mul_assoc 2 _ P, Nat.mul_assoc 2 _ P]; exact h5) hP0
    have h8 : 2 * (2 * (c * G)) ≤ 2 * Q + 2 * G := by omega
    have h9 : (2 * (2 * (c * G))) * n ≤ (2 * Q + 2 * G) * n := Nat.mul_le_mul_right _ h8
    have h10 : 2 * (2 * (c * G) * n) ≤ 2 * N + 2 * G * n := by
      have : Q * n ≤ N := by rw [Nat.mul_comm Q]; omega
      have e : (2 * Q + 2 * G) * n = 2 * (Q * n) + 2 * G * n := by grind
      have e' : (2 * (2 * (c * G))) * n = 2 * (2 * (c * G) * n) := by grind
      omega
    have h11 := Nat.mul_le_mul_right P h10
    grind
  · have h7 : 2 * q ≤ 2 * (4 * (c * G)) + 4 * G := Nat.le_of_mul_le_mul_right (by rw [Nat.add_mul, Nat.mul_assoc 2 _ P, Nat.mul_assoc 2 _ P]; exact h6) hP0
    have h8 : N ≤ (2 * (c * G) + G) * n := by
      rcases Nat.eq_or_lt_of_le (show Q ≤ 2 * (c * G) + G by omega) with h | h
      · have h9 : t = 0 := b2 (by omega)
        rw [h, h9, Nat.mul_comm n] at e1; omega
      · have : (Q + 1) * n ≤ (2 * (c * G) + G) * n := Nat.mul_le_mul_right _ h
        rw [Nat.add_mul, Nat.mul_comm Q] at this; omega
    have h11 := Nat.mul_le_mul_right P h8
    grind
theorem half_w {c p y w u : Nat} (h : 2 * (c * p * (y * w)) ≤ 2 * (u * w) + p * (y * w)) : 2 * (c * p * y) * w ≤ (2 * u + p * y) * w := by grind
theorem half_w' {c p y w u : Nat} (h : 2 * (u * w) ≤ 2 * (c * p * (y * w)) + p * (y * w)) : 2 * u * w ≤ (2 * (c * p * y) + p * y) * w := by grind
theorem div_core {x y K : Nat} (hx : Fin64 x) (hy : Fin64 y) (hy0 : 0 < rung y) (hK : K = 1074) : ∃ r, Ieee.double.div x y = some r ∧ r < 18446744073709551616 ∧ fneg r = (fneg x ^^ fneg y) ∧ Nearly (mg x * 2 ^ K) (mg y) (rung r) := by
  obtain ⟨m, i, a1, a2, a3⟩ := read_fin64 hx
  obtain ⟨n, j, b1, b2, b3⟩ := read_fin64 hy
  have hn : 0 < n := by
    have h1 : 0 < mg y := fmag_pos.2 hy0
    rcases Nat.eq_zero_or_pos n with h | h
    · rw [b3, h, Nat.zero_mul] at h1; omega
    · exact h
  unfold Ieee.Format.div
  rw [a1, b1]
  simp only [Ieee.Datum.quotient]
  rw [if_neg (by omega)]
  simp only [Option.map_some, Nat.shiftLeft_eq]
  obtain ⟨more, hmore⟩ : ∃ more, Ieee.double.fractionBits + 2 + n.log2 - m.log2 = more := ⟨_, rfl⟩
  rw [hmore]
  have e5 : Ieee.double.fractionBits = 52 := rfl
  rw [e5] at hmore
  obtain ⟨q, hq⟩ : ∃ q, 2 * (m * 2 ^ more / n) + (m * 2 ^ more % n != 0).toNat = q := ⟨_, rfl⟩
  rw [hq]
  obtain ⟨a, ha⟩ : ∃ a, (i + 1074).toNat + K = a := ⟨_, rfl⟩
  obtain ⟨b, hb⟩ : ∃ b, (j + 1074).toNat + more + 1 = b := ⟨_, rfl⟩
  obtain ⟨D, c, h1, h2, h3⟩ := near_form (fneg x ^^ fneg y) (m := q) (a := a) (b := b) (e := i - j - (more : Int) - 1) (by omega)
  have hin : min (D * 4503599627370496 + c) 9218868437227405312 < 9223372036854775808 := Nat.lt_of_le_of_lt (Nat.min_le_right _ _) (by decide)
  obtain ⟨c1, c2, c3⟩ := word_rung (fneg x ^^ fneg y) hin
  refine ⟨_, rfl, ?_⟩
  show Ieee.double.nearest _ _ _ < _ ∧ fneg (Ieee.double.nearest _ _ _) = _ ∧ Nearly _ _ (rung (Ieee.double.nearest _ _ _))
  rw [h1, c1, c2]
  refine ⟨c3, rfl, D, c, rfl, ?_⟩
  have s1 : mg x * 2 ^ K = m * 2 ^ a := by rw [a3, Nat.mul_assoc, ← Nat.pow_add, ha]
  rcases Nat.eq_zero_or_pos m with hm | hm
  · subst hm
    rw [Nat.zero_mul, Nat.zero_div, Nat.zero_mod] at hq
    have hq0 : q = 0 := hq.symm
    rw [hq0, Nat.zero_mul] at h2
    obtain ⟨g1, g2, g3, g4, g5, g6⟩ := h2
    have hc : c = 0 := by have := g3 0 (Nat.zero_le _); omega
    subst hc
    have hD : D = 0 := by
      rcases g2 with g | g
      · exact g
      · omega
    subst hD
    rw [s1, Nat.zero_mul]
    have hy1 : 0 < mg y := fmag_pos.2 hy0
    refine ⟨by omega, Or.inl rfl, fun C _ => Nat.zero_le _, fun C h => ?_, by omega, by omega⟩
    rw [Nat.pow_zero, Nat.mul_one] at h
    rcases Nat.eq_zero_or_pos C with h4 | h4
    · omega
    · have := Nat.mul_pos h4 hy1; omega
  · obtain ⟨m1, m2⟩ := log2_two m hm
    obtain ⟨n1, n2⟩ := log2_two n hn
    obtain ⟨f, hf⟩ : ∃ f : Nat, f = 53 := ⟨_, rfl⟩
    have hq2 : 2 ^ f ≤ m * 2 ^ more / n := by
      rw [Nat.le_div_iff_mul_le hn]
      have h4 : 2 ^ f * n ≤ 2 ^ f * 2 ^ (n.log2 + 1) := Nat.mul_le_mul_left _ (Nat.le_of_lt n2)
      have h5 : 2 ^ f * 2 ^ (n.log2 + 1) ≤ 2 ^ m.log2 * 2 ^ more := by rw [← Nat.pow_add, ← Nat.pow_add]; exact Nat.pow_le_pow_right (by omega) (by omega)
      exact Nat.le_trans h4 (Nat.le_trans h5 (Nat.mul_le_mul_right _ m1))
    have hq3 : 2 ^ (f + 1) ≤ q := by
      rw [← hq, Nat.pow_succ]
      generalize 2 ^ f = F at hq2 ⊢
      omega
    have hq0 : 0 < q := Nat.lt_of_lt_of_le (Nat.two_pow_pos _) hq3
    have hq4 : f + 1 ≤ q.log2 := (Nat.le_log2 (by omega)).2 hq3
    have h4 : a + q.log2 ≤ D + b + 52 := h3.resolve_left (by omega)
    obtain ⟨g, hg⟩ : ∃ g, D + b = a + 2 + g := ⟨D + b - a - 2, by omega⟩
    have h5 := quot_near hn hq.symm hg h2
    -- both by one power
    have e1 : 2 * (m * 2 ^ more) * 2 ^ a = mg x * 2 ^ K * (2 * 2 ^ more) := by rw [s1]; grind
    have e2 : 2 ^ b * n = mg y * (2 * 2 ^ more) := by rw [b3, ← hb, Nat.pow_add, Nat.pow_add]; grind
    rw [e1, e2] at h5
    have hw : 0 < 2 * 2 ^ more := by have := Nat.two_pow_pos more; omega
    generalize 2 * 2 ^ more = w at h5 hw
    obtain ⟨g1, g2, g3, g4, g5, g6⟩ := h5
    refine ⟨g1, ?_, fun C h => g3 C (by rw [← Nat.mul_assoc]; exact Nat.mul_le_mul_right _ h), fun C h => g4 C (by rw [← Nat.mul_assoc]; exact Nat.mul_le_mul_right _ h), ?_, ?_⟩
    · rcases g2 with g2 | ⟨g2, g7⟩
      · exact Or.inl g2
      · rw [← Nat.mul_assoc] at g7
        exact Or.inr ⟨g2, Nat.le_of_mul_le_mul_right g7 hw⟩
    · exact Nat.le_of_mul_le_mul_right (half_w g5) hw
    · exact Nat.le_of_mul_le_mul_right (half_w' g6) hw
end Go.Proofs.Ytbinpcoaghpcdaa
