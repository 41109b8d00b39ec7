/-
  Plain lemmas for Div of the program: the words of the quotient, one after the other.
-/
import Derived.Test.YtclggnaljijjoaaDivPure
import Derived.Test.YtclggnaljijjoaaRshPure
namespace Go.Proofs.Ytclggnaljijjoaa
theorem val_split (l : List Nat) (k : Nat) (h : k ≤ l.length) : val l = val (l.take k) + 4294967296 ^ k * val (l.drop k) := by
  have hk : (l.take k).length = k := by rw [List.length_take]; omega
  have := val_append (l.take k) (l.drop k)
  rw [List.take_append_drop, hk] at this
  exact this
theorem val_take_small {l : List Nat} {k : Nat} (h : val l < 4294967296 ^ k) : val (l.take k) = val l := by
  rcases Nat.lt_or_ge l.length k with h1 | h1
  · rw [List.take_of_length_le (by omega)]
  · have e := val_split l k h1
    rcases Nat.eq_zero_or_pos (val (l.drop k)) with h2 | h2
    · rw [h2] at e; omega
    · have : 4294967296 ^ k * 1 ≤ 4294967296 ^ k * val (l.drop k) := Nat.mul_le_mul_left _ h2
      omega
theorem val_drop_cons (l : List Nat) (i : Nat) (h : i < l.length) : val (l.drop i) = l.getD i 0 + 4294967296 * val (l.drop (i + 1)) := by
  rw [List.drop_eq_getElem_cons h, val]
  congr 1
  rw [List.getD_eq_getElem?_getD, List.getElem?_eq_getElem h]; rfl
/-- The state of the long division of A by D (of n words), i of the M words of the quotient still to come. -/
structure LongT (A D n M i : Nat) (R Q : List Nat) : Prop where
  lenR : R.length = M + n
  lenQ : Q.length = M
  wsR : Ws R
  wsQ : Ws Q
  sum : val R + 4294967296 ^ i * (val (Q.drop i) * D) = A
  rest : val (R.drop i) < D
theorem LongT.start {va vb s la n M : Nat} {R : List Nat} (hR : Ws R) (hl : R.length = M + n) (hM : la + 1 = M + n) (hn : 0 < n) (ha : va < 4294967296 ^ la) (hb : 4294967296 ^ (n - 1) ≤ vb) (hv : val R = 2 ^ s * va) :
    LongT (2 ^ s * va) (2 ^ s * vb) n M M R (List.replicate M 0) := by
  refine ⟨hl, List.length_replicate, hR, Ws.zeros _, ?_, ?_⟩
  · rw [List.drop_of_length_le (by rw [List.length_replicate]; exact Nat.le_refl _)]
    simp [val, hv]
  · have e := val_split R M (by omega)
    rw [hv] at e
    have e2 : 4294967296 ^ la = 4294967296 ^ M * 4294967296 ^ (n - 1) := by rw [← Nat.pow_add]; congr 1; omega
    have h1 : 2 ^ s * va < 2 ^ s * (4294967296 ^ M * 4294967296 ^ (n - 1)) := by rw [← e2]; exact Nat.mul_lt_mul_of_pos_left ha (Nat.two_pow_pos s)
    have h2 : 4294967296 ^ M * val (R.drop M) < 4294967296 ^ M * (2 ^ s * 4294967296 ^ (n - 1)) := by
      have : 4294967296 ^ M * (2 ^ s * 4294967296 ^ (n - 1)) = 2 ^ s * (4294967296 ^ M * 4294967296 ^ (n - 1)) := by grind
      omega
    have h3 := Nat.lt_of_mul_lt_mul_left h2
    exact Nat.lt_of_lt_of_le h3 (Nat.mul_le_mul_left _ hb)
theorem LongT.part {A D n M i : Nat} {R Q : List Nat} (h : LongT A D n M (i + 1) R Q) (hi : i < M) (hD : D < 4294967296 ^ n) :
    val ((R.drop i).take (n + 1)) = val (R.drop i) ∧ val ((R.drop i).take (n + 1)) < 4294967296 * D := by
  have e := val_drop_cons R i (by have := h.lenR; omega)
  have h1 := h.wsR.getD i
  have h2 := h.rest
  have h3 : val (R.drop i) < 4294967296 * D := by
    have : 4294967296 * (val (R.drop (i + 1)) + 1) ≤ 4294967296 * D := Nat.mul_le_mul_left _ h2
    omega
  have h4 : val (R.drop i) < 4294967296 ^ (n + 1) := by
    rw [Nat.pow_succ, Nat.mul_comm]
    exact Nat.lt_trans h3 (Nat.mul_lt_mul_of_pos_left hD (by omega))
  have h5 := val_take_small h4
  exact ⟨h5, by rw [h5]; exact h3⟩
theorem LongT.next {A D n M i : Nat} {R Q S : List Nat} (h : LongT A D n M (i + 1) R Q) (hi : i < M) (hD : D < 4294967296 ^ n) (hD0 : 0 < D)
    (hlen : S.length = R.length) (hws : Ws S) (hfar : ∀ j, j < i ∨ i + (n + 1) ≤ j → S.getD j 0 = R.getD j 0)
    (hs : val ((S.drop i).take (n + 1)) = val ((R.drop i).take (n + 1)) % D) :
    LongT A D n M i S (Q.set i (val ((R.drop i).take (n + 1)) / D)) := by
  obtain ⟨p1, p2⟩ := h.part hi hD
  obtain ⟨h1, h2, h3, h4, h5, h6⟩ := h
  have hq : val ((R.drop i).take (n + 1)) / D < 4294967296 := by rw [Nat.div_lt_iff_lt_mul hD0]; exact p2
  have r1 := val_split (R.drop i) (n + 1) (by rw [List.length_drop]; omega)
  have s1 := val_split (S.drop i) (n + 1) (by rw [List.length_drop]; omega)
  have e1 : val ((S.drop i).drop (n + 1)) = val ((R.drop i).drop (n + 1)) := by
    rw [List.drop_drop, List.drop_drop]
    exact val_eq (fun j => by rw [getD_drop, getD_drop]; exact hfar _ (.inr (by omega)))
  have e2 : 4294967296 ^ (n + 1) * val ((R.drop i).drop (n + 1)) = 0 := by omega
  rw [e1, e2, Nat.add_zero] at s1
  have e3 : val (R.take i) = val (S.take i) := by
    rw [take_congr (l := R) (m := S) i (by omega) (by omega) (fun j hj => (hfar j (.inl hj)).symm)]
  have r2 := val_split R i (by omega)
  have s2 := val_split S i (by omega)
  have e4 : val (R.drop i) = val (S.drop i) + val (R.drop i) / D * D := by
    rw [s1, hs, p1, Nat.mul_comm]
    exact (Nat.mod_add_div _ _).symm
  have q1 := val_drop_cons (Q.set i (val ((R.drop i).take (n + 1)) / D)) i (by rw [List.length_set]; omega)
  rw [getD_set_eq (by omega)] at q1
  have e5 : (Q.set i (val ((R.drop i).take (n + 1)) / D)).drop (i + 1) = Q.drop (i + 1) := by
    rw [List.drop_set, if_pos (by omega)]
  rw [e5] at q1
  refine ⟨by omega, by rw [List.length_set]; exact h2, hws, h4.set hq, ?_, ?_⟩
  · rw [q1, s2, ← e3, p1]
    rw [r2] at h5
    rw [Nat.pow_succ] at h5
    generalize val (R.drop i) / D = q at *
    generalize val (Q.drop (i + 1)) = V at *
    generalize 4294967296 ^ i = K at *
    rw [e4] at h5
    grind
  · rw [s1, hs]; exact Nat.mod_lt _ hD0
theorem LongT.fin {A D n M : Nat} {R Q : List Nat} (h : LongT A D n M 0 R Q) (hD0 : 0 < D) : val Q = A / D ∧ val R = A % D := by
  obtain ⟨h1, h2, h3, h4, h5, h6⟩ := h
  rw [Nat.pow_zero, Nat.one_mul, List.drop_zero] at h5
  rw [List.drop_zero] at h6
  have e1 : A / D = val Q := by
    rw [← h5, Nat.add_mul_div_right _ _ hD0, Nat.div_eq_of_lt h6, Nat.zero_add]
  have e2 := Nat.mod_add_div A D
  rw [e1] at e2
  refine ⟨e1.symm, ?_⟩
  rw [Nat.mul_comm] at e2
  omega
/-! ### by a word -/
/-- The state of the division by a word d: the words from i on are the quotient's, and r is the rest so far. -/
structure WordT (a : List Nat) (d i : Nat) (S : List Nat) (r : Nat) : Prop where
  len : S.length = a.length
  ws : Ws S
  far : ∀ j, j < i → S.getD j 0 = a.getD j 0
  sum : val (S.drop i) * d + r = val (a.drop i)
  low : r < d
theorem WordT.start {a : List Nat} {d : Nat} (h : Ws a) (hd : 0 < d) : WordT a d a.length a 0 :=
  ⟨rfl, h, fun _ _ => rfl, by rw [List.drop_of_length_le (Nat.le_refl _)]; simp [val], hd⟩
theorem WordT.next {a : List Nat} {d i : Nat} {S : List Nat} {r : Nat} (h : WordT a d (i + 1) S r) (ha : Ws a) (hi : i < a.length) (hd : d < 4294967296) :
    S.getD i 0 = a.getD i 0 ∧ (r * 4294967296 + a.getD i 0) / d < 4294967296 ∧ WordT a d i (S.set i ((r * 4294967296 + a.getD i 0) / d)) ((r * 4294967296 + a.getD i 0) % d) := by
  obtain ⟨h1, h2, h3, h4, h5⟩ := h
  have hx := ha.getD i
  have hd0 : 0 < d := by omega
  have hq : (r * 4294967296 + a.getD i 0) / d < 4294967296 := by
    rw [Nat.div_lt_iff_lt_mul hd0]
    have : (r + 1) * 4294967296 ≤ d * 4294967296 := Nat.mul_le_mul_right _ h5
    omega
  refine ⟨h3 i (by omega), hq, by rw [List.length_set]; exact h1, h2.set hq, fun j hj => by rw [getD_set_ne (by omega)]; exact h3 j (by omega), ?_, Nat.mod_lt _ hd0⟩
  rw [val_drop_cons _ i (by rw [List.length_set]; omega), getD_set_eq (by omega), val_drop_cons a i hi, List.drop_set, if_pos (by omega)]
  have e := Nat.mod_add_div (r * 4294967296 + a.getD i 0) d
  generalize (r * 4294967296 + a.getD i 0) / d = q at *
  generalize (r * 4294967296 + a.getD i 0) % d = z at *
  generalize val (S.drop (i + 1)) = V at *
  rw [← h4]
  grind
theorem WordT.fin {a : List Nat} {d : Nat} {S : List Nat} {r : Nat} (h : WordT a d 0 S r) : val S = val a / d ∧ r = val a % d := by
  obtain ⟨h1, h2, h3, h4, h5⟩ := h
  rw [List.drop_zero, List.drop_zero] at h4
  have e1 : val a / d = val S := by
    rw [← h4, Nat.add_comm, Nat.add_mul_div_right _ _ (by omega), Nat.div_eq_of_lt h5, Nat.zero_add]
  have e2 := Nat.mod_add_div (val a) d
  rw [e1, Nat.mul_comm] at e2
  exact ⟨e1.symm, by omega⟩
/-! ### bit by bit -/
theorem or_bit (x s : Nat) (h : x / 2 ^ s % 2 = 0) : x ||| 2 ^ s = x + 2 ^ s := by
  have h1 := Nat.mod_pow_succ (b := 2) (x := x) (k := s)
  rw [h, Nat.mul_zero] at h1
  have h2 := Nat.mod_add_div x (2 ^ (s + 1))
  rw [h1, Nat.add_zero] at h2
  have hl : x % 2 ^ s < 2 ^ s := Nat.mod_lt _ (Nat.two_pow_pos s)
  generalize x % 2 ^ s = l at *
  generalize x / 2 ^ (s + 1) = q at *
  have hp : 2 ^ (s + 1) = 2 * 2 ^ s := by rw [Nat.pow_succ, Nat.mul_comm]
  have e1 : x = 2 ^ (s + 1) * q ||| l := by rw [← Nat.two_pow_add_eq_or_of_lt (by omega), Nat.add_comm]; exact h2.symm
  have e2 : 2 ^ s * 1 ||| l = 2 ^ s + l := by rw [← Nat.two_pow_add_eq_or_of_lt hl, Nat.mul_one]
  rw [Nat.mul_one] at e2
  have e3 : x ||| 2 ^ s = 2 ^ (s + 1) * q ||| (2 ^ s + l) := by rw [e1, Nat.or_assoc, Nat.or_comm l, e2]
  rw [e3, ← Nat.two_pow_add_eq_or_of_lt (by omega)]
  omega
theorem half_div {X v bit : Nat} (hv : 0 < v) (hb : bit < 2) :
    (v ≤ 2 * (X % v) + bit → (2 * X + bit) / v = 2 * (X / v) + 1 ∧ (2 * X + bit) % v = 2 * (X % v) + bit - v) ∧
    (2 * (X % v) + bit < v → (2 * X + bit) / v = 2 * (X / v) ∧ (2 * X + bit) % v = 2 * (X % v) + bit) := by
  have e := Nat.mod_add_div X v
  have hr := Nat.mod_lt X hv
  generalize X % v = r at *
  generalize X / v = q at *
  refine ⟨fun h => ?_, fun h => ?_⟩
  · have e2 : 2 * X + bit = (2 * r + bit - v) + v * (2 * q + 1) := by
      have : v * (2 * q + 1) = 2 * (v * q) + v := by grind
      omega
    rw [e2, Nat.add_mul_div_left _ _ hv, Nat.add_mul_mod_self_left, Nat.div_eq_of_lt (by omega), Nat.mod_eq_of_lt (by omega)]
    omega
  · have e2 : 2 * X + bit = (2 * r + bit) + v * (2 * q) := by
      have : v * (2 * q) = 2 * (v * q) := by grind
      omega
    rw [e2, Nat.add_mul_div_left _ _ hv, Nat.add_mul_mod_self_left, Nat.div_eq_of_lt h, Nat.mod_eq_of_lt h]
    omega
/-- The state of the division bit by bit, i bits still to come: Q is the quotient so far, r the rest. -/
structure HalfT (a : List Nat) (v i : Nat) (Q : List Nat) (r : Nat) : Prop where
  len : Q.length = a.length
  ws : Ws Q
  sum : val Q = 2 ^ i * (val a / 2 ^ i / v)
  rest : r = val a / 2 ^ i % v
theorem HalfT.start {a : List Nat} (ha : Ws a) (v : Nat) : HalfT a v (32 * a.length) (List.replicate a.length 0) 0 := by
  have h := val_lt ha
  rw [pow32] at h
  refine ⟨List.length_replicate, Ws.zeros _, ?_, ?_⟩
  · rw [val_zeros, Nat.div_eq_of_lt h, Nat.zero_div, Nat.mul_zero]
  · rw [Nat.div_eq_of_lt h, Nat.zero_mod]
theorem half_bit {a : List Nat} (ha : Ws a) (j s : Nat) (hj : j ≤ a.length) (hs : s < 32) : val a / 2 ^ (32 * j + s) = 2 * (val a / 2 ^ (32 * j + s + 1)) + a.getD j 0 / 2 ^ s % 2 := by
  have h := bit_word ha j s hj hs
  rw [← h, Nat.pow_succ, ← Nat.div_div_eq_div_mul]
  omega
theorem HalfT.down {a : List Nat} {v j s : Nat} {Q : List Nat} {r : Nat} (h : HalfT a v (32 * j + s + 1) Q r) (ha : Ws a) (hv : 0 < v) (hj : j < a.length) (hs : s < 32) (hlt : 2 * r + a.getD j 0 / 2 ^ s % 2 < v) :
    HalfT a v (32 * j + s) Q (2 * r + a.getD j 0 / 2 ^ s % 2) := by
  obtain ⟨h1, h2, h3, h4⟩ := h
  have e := half_bit ha j s (by omega) hs
  have hb : a.getD j 0 / 2 ^ s % 2 < 2 := Nat.mod_lt _ (by omega)
  rw [h4] at hlt
  obtain ⟨g1, g2⟩ := (half_div (X := val a / 2 ^ (32 * j + s + 1)) hv hb).2 hlt
  refine ⟨h1, h2, ?_, ?_⟩
  · rw [h3, e, g1, Nat.pow_succ]; grind
  · rw [e, g2, h4]
theorem HalfT.up {a : List Nat} {v j s : Nat} {Q : List Nat} {r : Nat} (h : HalfT a v (32 * j + s + 1) Q r) (ha : Ws a) (hv : 0 < v) (hj : j < a.length) (hs : s < 32) (hle : v ≤ 2 * r + a.getD j 0 / 2 ^ s % 2) :
    Q.getD j 0 ||| 2 ^ s < 4294967296 ∧ HalfT a v (32 * j + s) (Q.set j (Q.getD j 0 ||| 2 ^ s)) (2 * r + a.getD j 0 / 2 ^ s % 2 - v) := by
  obtain ⟨h1, h2, h3, h4⟩ := h
  have e := half_bit ha j s (by omega) hs
  have hb : a.getD j 0 / 2 ^ s % 2 < 2 := Nat.mod_lt _ (by omega)
  rw [h4] at hle
  obtain ⟨g1, g2⟩ := (half_div (X := val a / 2 ^ (32 * j + s + 1)) hv hb).1 hle
  have hbit := bit_word h2 j s (by omega) hs
  have hz : val Q / 2 ^ (32 * j + s) % 2 = 0 := by
    rw [h3, Nat.pow_succ, Nat.mul_assoc, Nat.mul_div_cancel_left _ (Nat.two_pow_pos _)]
    omega
  rw [hz] at hbit
  have hor := or_bit _ s hbit.symm
  have hlt : Q.getD j 0 ||| 2 ^ s < 4294967296 := Nat.or_lt_two_pow (n := 32) (h2.getD j) (Nat.pow_lt_pow_right (by omega) hs)
  refine ⟨hlt, by rw [List.length_set]; exact h1, h2.set hlt, ?_, ?_⟩
  · have q1 := val_split Q j (by omega)
    have q2 := val_drop_cons Q j (by omega)
    have s1 := val_split (Q.set j (Q.getD j 0 ||| 2 ^ s)) j (by rw [List.length_set]; omega)
    have s2 := val_drop_cons (Q.set j (Q.getD j 0 ||| 2 ^ s)) j (by rw [List.length_set]; omega)
    have e7 : (Q.set j (Q.getD j 0 ||| 2 ^ s)).drop (j + 1) = Q.drop (j + 1) := by rw [List.drop_set, if_pos (by omega)]
    rw [getD_set_eq (by omega), e7] at s2
    rw [take_congr (l := Q.set j _) (m := Q) j (by rw [List.length_set]; omega) (by omega) (fun k hk => getD_set_ne (by omega))] at s1
    have e5 : val (Q.set j (Q.getD j 0 ||| 2 ^ s)) = val Q + 2 ^ (32 * j + s) := by
      rw [s1, s2, q1, q2, hor, Nat.pow_add, pow32]; grind
    rw [e5, h3, e, g1, Nat.pow_succ]; grind
  · rw [e, g2, h4]
theorem HalfT.fin {a : List Nat} {v : Nat} {Q : List Nat} {r : Nat} (h : HalfT a v 0 Q r) : val Q = val a / v ∧ r = val a % v := by
  obtain ⟨h1, h2, h3, h4⟩ := h
  rw [Nat.pow_zero, Nat.div_one] at h3 h4
  exact ⟨by omega, h4⟩
end Go.Proofs.Ytclggnaljijjoaa
