/-
  Plain lemmas: a list of words times and divided by a power of 2 below 2^32, word by word.
-/
import Derived.Test.YtclggnaljijjoaaSumPure
namespace Go.Proofs.Ytclggnaljijjoaa
theorem pow_parts {s : Nat} (hs : s ≤ 32) : 2 ^ s * 2 ^ (32 - s) = 4294967296 := by
  rw [← Nat.pow_add, show s + (32 - s) = 32 by omega]
/-- What a word hands to the next one, when it is times 2^s. -/
def carL (a : List Nat) (s k : Nat) : Nat := if k = 0 then 0 else a.getD (k - 1) 0 / 2 ^ (32 - s)
/-- The word at a place of a times 2^s. -/
def shlW (a : List Nat) (s k : Nat) : Nat := a.getD k 0 * 2 ^ s % 4294967296 + carL a s k
theorem mul_div_low (x s : Nat) (hs : s ≤ 32) : x * 2 ^ s / 4294967296 = x / 2 ^ (32 - s) := by
  rw [← pow_parts hs, Nat.mul_comm x, Nat.mul_div_mul_left _ _ (Nat.two_pow_pos s)]
theorem mul_mod_low (x s : Nat) (hs : s ≤ 32) : x * 2 ^ s % 4294967296 = 2 ^ s * (x % 2 ^ (32 - s)) := by
  rw [← pow_parts hs, Nat.mul_comm x, Nat.mul_mod_mul_left]
theorem div_lt_low (y s : Nat) (hs : s ≤ 32) (hy : y < 4294967296) : y / 2 ^ (32 - s) < 2 ^ s := by
  rw [Nat.div_lt_iff_lt_mul (Nat.two_pow_pos _), pow_parts hs]; exact hy
theorem or_low (x y s : Nat) (hs : s ≤ 32) (hy : y < 4294967296) : (x * 2 ^ s % 4294967296) ||| (y / 2 ^ (32 - s)) = x * 2 ^ s % 4294967296 + y / 2 ^ (32 - s) := by
  rw [mul_mod_low x s hs, Nat.two_pow_add_eq_or_of_lt (div_lt_low y s hs hy)]
theorem sum_low (x y s : Nat) (hs : s ≤ 32) (hy : y < 4294967296) : x * 2 ^ s % 4294967296 + y / 2 ^ (32 - s) < 4294967296 := by
  have h1 := div_lt_low y s hs hy
  have h2 : x % 2 ^ (32 - s) < 2 ^ (32 - s) := Nat.mod_lt _ (Nat.two_pow_pos _)
  rw [mul_mod_low x s hs]
  have h3 : 2 ^ s * (x % 2 ^ (32 - s) + 1) ≤ 2 ^ s * 2 ^ (32 - s) := Nat.mul_le_mul_left _ h2
  rw [pow_parts hs, Nat.mul_add, Nat.mul_one] at h3
  omega
theorem shlW_lt {a : List Nat} (ha : Ws a) (s k : Nat) (hs : s ≤ 32) : shlW a s k < 4294967296 := by
  unfold shlW carL
  split
  · omega
  · exact sum_low _ _ s hs (ha.getD _)
/-- What stands in a part of a row, when k words of a times 2^s were written from o on. -/
structure ShlP (R : List Nat) (o : Nat) (a : List Nat) (s k : Nat) (S : List Nat) : Prop where
  len : S.length = R.length
  ws : Ws S
  far : ∀ j, j < o ∨ o + k ≤ j → S.getD j 0 = R.getD j 0
  sum : val ((S.drop o).take k) + 4294967296 ^ k * carL a s k = 2 ^ s * val (a.take k)
theorem ShlP.start {R : List Nat} (o : Nat) (a : List Nat) (s : Nat) (hR : Ws R) : ShlP R o a s 0 R := ⟨rfl, hR, fun _ _ => rfl, by simp [val, carL]⟩
theorem ShlP.next {R : List Nat} {o : Nat} {a : List Nat} {s k : Nat} {S : List Nat} (h : ShlP R o a s k S) (ha : Ws a) (hs : s ≤ 32) (ho : o + k < R.length) :
    ShlP R o a s (k + 1) (S.set (o + k) (shlW a s k)) := by
  obtain ⟨h1, h2, h3, h4⟩ := h
  refine ⟨by rw [List.length_set]; exact h1, h2.set (shlW_lt ha s k hs), fun j hj => by rw [getD_set_ne (by omega), h3 j (by omega)], ?_⟩
  rw [val_part_succ _ o k (by rw [List.length_set]; omega), val_take_next a k, getD_set_eq (by omega)]
  rw [part_congr (l := S.set (o + k) (shlW a s k)) (m := S) o k (by rw [List.length_set]; omega) (by omega) (fun j _ hj => getD_set_ne (by omega))]
  have e1 : carL a s (k + 1) = a.getD k 0 * 2 ^ s / 4294967296 := by
    unfold carL; rw [if_neg (by omega), Nat.add_sub_cancel, mul_div_low _ s hs]
  have e := step_words (4294967296 ^ k) (a.getD k 0 * 2 ^ s) (val ((S.drop o).take k) + 4294967296 ^ k * carL a s k) (2 ^ s * (val (a.take k) + 4294967296 ^ k * a.getD k 0)) (by rw [h4]; grind)
  rw [e1, Nat.pow_succ]
  unfold shlW
  grind
theorem ShlP.whole {R : List Nat} {o : Nat} {a : List Nat} {s n : Nat} {S : List Nat} (h : ShlP R o a s n S) (hn : a.length < n) : val ((S.drop o).take n) = 2 ^ s * val a := by
  have h4 := h.sum
  have e : carL a s n = 0 := by
    unfold carL
    split
    · rfl
    · rw [List.getD_eq_getElem?_getD, List.getElem?_eq_none (by omega)]; simp
  rw [e, Nat.mul_zero, Nat.add_zero, val_take_end (l := a) (by omega)] at h4
  exact h4
/-- The word at a place of a divided by 2^s. -/
def shrW (a : List Nat) (s k : Nat) : Nat := a.getD (k + 1) 0 * 2 ^ (32 - s) % 4294967296 + a.getD k 0 / 2 ^ s
theorem shrW_lt {a : List Nat} (ha : Ws a) (s k : Nat) (hs : s ≤ 32) : shrW a s k < 4294967296 := by
  unfold shrW
  have := sum_low (a.getD (k + 1) 0) (a.getD k 0) (32 - s) (by omega) (ha.getD k)
  rw [show 32 - (32 - s) = s by omega] at this
  exact this
structure ShrP (R : List Nat) (o : Nat) (a : List Nat) (s k : Nat) (S : List Nat) : Prop where
  len : S.length = R.length
  ws : Ws S
  far : ∀ j, j < o ∨ o + k ≤ j → S.getD j 0 = R.getD j 0
  sum : 2 ^ s * val ((S.drop o).take k) + a.getD 0 0 % 2 ^ s = val (a.take k) + 4294967296 ^ k * (a.getD k 0 % 2 ^ s)
theorem ShrP.start {R : List Nat} (o : Nat) (a : List Nat) (s : Nat) (hR : Ws R) : ShrP R o a s 0 R := ⟨rfl, hR, fun _ _ => rfl, by simp [val]⟩
theorem shrW_times (a : List Nat) (s k : Nat) (hs : s ≤ 32) : 2 ^ s * shrW a s k + a.getD k 0 % 2 ^ s = a.getD k 0 + 4294967296 * (a.getD (k + 1) 0 % 2 ^ s) := by
  have h1 := Nat.div_add_mod (a.getD k 0) (2 ^ s)
  have h2 := mul_mod_low (a.getD (k + 1) 0) (32 - s) (by omega)
  rw [show 32 - (32 - s) = s by omega] at h2
  have h3 := pow_parts hs
  unfold shrW
  rw [h2, ← h3]
  generalize 2 ^ s = P at *
  generalize 2 ^ (32 - s) = Q at *
  generalize a.getD (k + 1) 0 % P = z at *
  have e : P * (Q * z + a.getD k 0 / P) = P * Q * z + P * (a.getD k 0 / P) := by rw [Nat.mul_add, Nat.mul_assoc]
  omega
theorem ShrP.next {R : List Nat} {o : Nat} {a : List Nat} {s k : Nat} {S : List Nat} (h : ShrP R o a s k S) (ha : Ws a) (hs : s ≤ 32) (ho : o + k < R.length) :
    ShrP R o a s (k + 1) (S.set (o + k) (shrW a s k)) := by
  obtain ⟨h1, h2, h3, h4⟩ := h
  refine ⟨by rw [List.length_set]; exact h1, h2.set (shrW_lt ha s k hs), fun j hj => by rw [getD_set_ne (by omega), h3 j (by omega)], ?_⟩
  rw [val_part_succ _ o k (by rw [List.length_set]; omega), val_take_next a k, getD_set_eq (by omega)]
  rw [part_congr (l := S.set (o + k) (shrW a s k)) (m := S) o k (by rw [List.length_set]; omega) (by omega) (fun j _ hj => getD_set_ne (by omega))]
  have e := shrW_times a s k hs
  rw [Nat.pow_succ]
  generalize 4294967296 ^ k = K at *
  generalize shrW a s k = W at *
  have e2 : K * (2 ^ s * W + a.getD k 0 % 2 ^ s) = K * (a.getD k 0 + 4294967296 * (a.getD (k + 1) 0 % 2 ^ s)) := by rw [e]
  grind
theorem ShrP.whole {R : List Nat} {o : Nat} {a : List Nat} {s n : Nat} {S : List Nat} (h : ShrP R o a s n S) (hn : a.length ≤ n) : val ((S.drop o).take n) = val a / 2 ^ s := by
  have h4 := h.sum
  have e : a.getD n 0 = 0 := by rw [List.getD_eq_getElem?_getD, List.getElem?_eq_none hn]; rfl
  rw [e, Nat.zero_mod, Nat.mul_zero, Nat.add_zero, val_take_end (l := a) hn] at h4
  rw [← h4, Nat.add_comm, Nat.add_mul_div_left _ _ (Nat.two_pow_pos s), Nat.div_eq_of_lt (Nat.mod_lt _ (Nat.two_pow_pos s)), Nat.zero_add]
end Go.Proofs.Ytclggnaljijjoaa
