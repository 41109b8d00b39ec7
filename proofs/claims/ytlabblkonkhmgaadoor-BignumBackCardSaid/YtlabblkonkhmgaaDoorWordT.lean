/-
  Plain lemmas: a natural divided by a word, word by word.
-/
import Derived.Test.YtlabblkonkhmgaaDoorPlain
namespace Go.Proofs.YtlabblkonkhmgaaDoor
theorem val_split (l : List Nat) (k : Nat) (h : k ≤ l.length) : val l = val (l.take k) + 4294967296 ^ k * val (l.drop k) := by
  have hk : (l.take k).length = k := by rw [List.length_take]; omega
  have := val_append (l.take k) (l.drop k)
  rw [List.take_append_drop, hk] at this
  exact this
theorem val_take_small {l : List Nat} {k : Nat} (h : val l < 4294967296 ^ k) : val (l.take k) = val l := by
  rcases Nat.lt_or_ge l.length k with h1 | h1
  · rw [List.take_of_length_le (by omega)]
  · have e := val_split l k h1
    rcases Nat.eq_zero_or_pos (val (l.drop k)) with h2 | h2
    · rw [h2] at e; omega
    · have : 4294967296 ^ k * 1 ≤ 4294967296 ^ k * val (l.drop k) := Nat.mul_le_mul_left _ h2
      omega
theorem val_drop_cons (l : List Nat) (i : Nat) (h : i < l.length) : val (l.drop i) = l.getD i 0 + 4294967296 * val (l.drop (i + 1)) := by
  rw [List.drop_eq_getElem_cons h, val]
  congr 1
  rw [List.getD_eq_getElem?_getD, List.getElem?_eq_getElem h]; rfl
/-! ### by a word -/
/-- The state of the division by a word d: the words from i on are the quotient's, and r is the rest so far. -/
structure WordT (a : List Nat) (d i : Nat) (S : List Nat) (r : Nat) : Prop where
  len : S.length = a.length
  ws : Ws S
  far : ∀ j, j < i → S.getD j 0 = a.getD j 0
  sum : val (S.drop i) * d + r = val (a.drop i)
  low : r < d
theorem WordT.start {a : List Nat} {d : Nat} (h : Ws a) (hd : 0 < d) : WordT a d a.length a 0 :=
  ⟨rfl, h, fun _ _ => rfl, by rw [List.drop_of_length_le (Nat.le_refl _)]; simp [val], hd⟩
theorem WordT.next {a : List Nat} {d i : Nat} {S : List Nat} {r : Nat} (h : WordT a d (i + 1) S r) (ha : Ws a) (hi : i < a.length) (hd : d < 4294967296) :
    S.getD i 0 = a.getD i 0 ∧ (r * 4294967296 + a.getD i 0) / d < 4294967296 ∧ WordT a d i (S.set i ((r * 4294967296 + a.getD i 0) / d)) ((r * 4294967296 + a.getD i 0) % d) := by
  obtain ⟨h1, h2, h3, h4, h5⟩ := h
  have hx := ha.getD i
  have hd0 : 0 < d := by omega
  have hq : (r * 4294967296 + a.getD i 0) / d < 4294967296 := by
    rw [Nat.div_lt_iff_lt_mul hd0]
    have : (r + 1) * 4294967296 ≤ d * 4294967296 := Nat.mul_le_mul_right _ h5
    omega
  refine ⟨h3 i (by omega), hq, by rw [List.length_set]; exact h1, h2.set hq, fun j hj => by rw [getD_set_ne (by omega)]; exact h3 j (by omega), ?_, Nat.mod_lt _ hd0⟩
  rw [val_drop_cons _ i (by rw [List.length_set]; omega), getD_set_eq (by omega), val_drop_cons a i hi, List.drop_set, if_pos (by omega)]
  have e := Nat.mod_add_div (r * 4294967296 + a.getD i 0) d
  generalize (r * 4294967296 + a.getD i 0) / d = q at *
  generalize (r * 4294967296 + a.getD i 0) % d = z at *
  generalize val (S.drop (i + 1)) = V at *
  rw [← h4]
  grind
theorem WordT.fin {a : List Nat} {d : Nat} {S : List Nat} {r : Nat} (h : WordT a d 0 S r) : val S = val a / d ∧ r = val a % d := by
  obtain ⟨h1, h2, h3, h4, h5⟩ := h
  rw [List.drop_zero, List.drop_zero] at h4
  have e1 : val a / d = val S := by
    rw [← h4, Nat.add_comm, Nat.add_mul_div_right _ _ (by omega), Nat.div_eq_of_lt h5, Nat.zero_add]
  have e2 := Nat.mod_add_div (val a) d
  rw [e1, Nat.mul_comm] at e2
  exact ⟨e1.symm, by omega⟩
end Go.Proofs.YtlabblkonkhmgaaDoor
