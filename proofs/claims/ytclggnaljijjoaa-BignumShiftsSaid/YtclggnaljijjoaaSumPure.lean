/-
  Plain lemmas: sums and differences of lists of words, word by word.
-/
import Derived.Test.YtclggnaljijjoaaWds
namespace Go.Proofs.Ytclggnaljijjoaa
theorem val_take_next (l : List Nat) (k : Nat) : val (l.take (k + 1)) = val (l.take k) + 4294967296 ^ k * l.getD k 0 := by
  rcases Nat.lt_or_ge k l.length with h | h
  · exact val_take_succ l k h
  · rw [List.take_of_length_le (by omega), List.take_of_length_le h, List.getD_eq_getElem?_getD, List.getElem?_eq_none h]; simp
theorem val_take_end {l : List Nat} {k : Nat} (h : l.length ≤ k) : val (l.take k) = val l := by rw [List.take_of_length_le h]
/-- What stands in the first k words of a sum, c to be carried. -/
structure SumT (a b : List Nat) (k : Nat) (S : List Nat) (c : Nat) : Prop where
  ws : Ws S
  sum : val (S.take k) + 4294967296 ^ k * c = val (a.take k) + val (b.take k)
  low : c ≤ 1
theorem SumT.start (a b S : List Nat) (h : Ws S) : SumT a b 0 S 0 := ⟨h, by simp [val], by omega⟩
def sumC (a b : List Nat) (k c : Nat) : Nat := a.getD k 0 + b.getD k 0 + c
theorem sumC_lt {a b : List Nat} {k c : Nat} (ha : Ws a) (hb : Ws b) (hc : c ≤ 1) : sumC a b k c < 8589934592 := by
  have h1 := ha.getD k
  have h2 := hb.getD k
  unfold sumC
  omega
/-- A list whose word k is the next word of the sum, and whose first k words are as they were. -/
theorem SumT.next {a b : List Nat} {k : Nat} {S T : List Nat} {c : Nat} (h : SumT a b k S c) (ha : Ws a) (hb : Ws b) (hT : Ws T) (e1 : T.take k = S.take k) (e2 : T.getD k 0 = sumC a b k c % 4294967296) :
    SumT a b (k + 1) T (sumC a b k c / 4294967296) := by
  have hlt := sumC_lt (k := k) ha hb h.low
  refine ⟨hT, ?_, by omega⟩
  have hs := h.sum
  rw [val_take_next T k, e1, e2, val_take_next a k, val_take_next b k]
  have e := step_words (4294967296 ^ k) (sumC a b k c) (val (S.take k)) (val (a.take k) + 4294967296 ^ k * a.getD k 0 + (val (b.take k) + 4294967296 ^ k * b.getD k 0)) (by unfold sumC; grind)
  rw [Nat.pow_succ]
  exact e
theorem carry_none {P Q va vb vS c : Nat} (h1 : va < P) (h2 : vb < P) (h3 : 2 * P ≤ Q) (hs : vS + Q * c = va + vb) : vS = va + vb := by
  rcases Nat.eq_zero_or_pos c with h0 | h0
  · rw [h0, Nat.mul_zero] at hs; omega
  · have h6 : Q * 1 ≤ Q * c := Nat.mul_le_mul_left _ h0
    omega
theorem pow_twice (n : Nat) : 2 * 4294967296 ^ n ≤ 4294967296 ^ (n + 1) := by
  rw [Nat.pow_succ, Nat.mul_comm]
  exact Nat.mul_le_mul_left _ (by omega)
theorem SumT.whole {a b : List Nat} {n : Nat} {S : List Nat} {c : Nat} (h : SumT a b (n + 1) S c) (ha : Ws a) (hb : Ws b) (hn : a.length ≤ n) (hm : b.length ≤ n) (hS : S.length = n + 1) : val S = val a + val b := by
  have hs := h.sum
  rw [val_take_end (Nat.le_of_eq hS), val_take_end (Nat.le_succ_of_le hn), val_take_end (Nat.le_succ_of_le hm)] at hs
  exact carry_none (Nat.lt_of_lt_of_le (val_lt ha) (Nat.pow_le_pow_right (by omega) hn)) (Nat.lt_of_lt_of_le (val_lt hb) (Nat.pow_le_pow_right (by omega) hm)) (pow_twice n) hs
theorem SumT.end_ {a b : List Nat} {k : Nat} {S : List Nat} {c : Nat} (h : SumT a b k S c) (hn : a.length ≤ k) (hm : b.length ≤ k) (hS : S.length = k) : Ws (S ++ [c]) ∧ val (S ++ [c]) = val a + val b := by
  have hs := h.sum
  rw [val_take_end (by omega), val_take_end hn, val_take_end hm] at hs
  refine ⟨h.ws.append (Ws.cons (by have := h.low; omega) Ws.nil), ?_⟩
  rw [val_snoc, hS]
  exact hs
theorem borrow_none {P va vb vS c : Nat} (h1 : vS < P) (h2 : vb ≤ va) (hs : vS + vb = va + P * c) : vS = va - vb := by
  rcases Nat.eq_zero_or_pos c with h0 | h0
  · rw [h0, Nat.mul_zero] at hs; omega
  · have h6 : P * 1 ≤ P * c := Nat.mul_le_mul_left _ h0
    omega
/-- What stands in the first k words of a difference, c to be taken. -/
structure SubT (a b : List Nat) (k : Nat) (S : List Nat) (c : Nat) : Prop where
  ws : Ws S
  sum : val (S.take k) + val (b.take k) = val (a.take k) + 4294967296 ^ k * c
  low : c ≤ 1
theorem SubT.start (a b S : List Nat) (h : Ws S) : SubT a b 0 S 0 := ⟨h, by simp [val], by omega⟩
/-- The next word of a difference, and what is to be taken then. -/
def subW (a b : List Nat) (k c : Nat) : Nat := (a.getD k 0 + 4294967296 * 2 - b.getD k 0 - c) % 4294967296
def subC (a b : List Nat) (k c : Nat) : Nat := if a.getD k 0 < b.getD k 0 + c then 1 else 0
theorem SubT.next {a b : List Nat} {k : Nat} {S T : List Nat} {c : Nat} (h : SubT a b k S c) (ha : Ws a) (hb : Ws b) (hT : Ws T) (e1 : T.take k = S.take k) (e2 : T.getD k 0 = subW a b k c) :
    SubT a b (k + 1) T (subC a b k c) := by
  have h1 := ha.getD k
  have h2 := hb.getD k
  have h3 := h.low
  have hs := h.sum
  refine ⟨hT, ?_, by unfold subC; split <;> omega⟩
  rw [val_take_next T k, e1, e2, val_take_next a k, val_take_next b k]
  have key : subW a b k c + b.getD k 0 + c = a.getD k 0 + 4294967296 * subC a b k c := by
    unfold subW subC
    split <;> omega
  rw [Nat.pow_succ]
  have : 4294967296 ^ k * (subW a b k c + b.getD k 0 + c) = 4294967296 ^ k * (a.getD k 0 + 4294967296 * subC a b k c) := by rw [key]
  grind
theorem SubT.whole {a b : List Nat} {n : Nat} {S : List Nat} {c : Nat} (h : SubT a b n S c) (hn : a.length ≤ n) (hm : b.length ≤ n) (hS : S.length = n) (hle : val b ≤ val a) : val S = val a - val b := by
  have hs := h.sum
  rw [val_take_end (by omega), val_take_end hn, val_take_end hm] at hs
  have h1 := val_lt h.ws
  rw [hS] at h1
  exact borrow_none h1 hle hs
end Go.Proofs.Ytclggnaljijjoaa
