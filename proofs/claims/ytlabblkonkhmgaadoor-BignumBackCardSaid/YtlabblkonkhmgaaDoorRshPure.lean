/-
  Plain lemmas for Shr of the reference: bit by bit, and word by word.
-/
import Derived.Test.YtlabblkonkhmgaaDoorLoses
namespace Go.Proofs.YtlabblkonkhmgaaDoor
theorem bit_next (v k : Nat) : decide (v % 2 ^ (k + 1) ≠ 0) = (decide (v % 2 ^ k ≠ 0) || decide (v / 2 ^ k % 2 = 1)) := by
  have h := Nat.mod_pow_succ (b := 2) (x := v) (k := k)
  have hp : 0 < 2 ^ k := Nat.two_pow_pos k
  rw [h, ← Bool.decide_or]
  refine decide_eq_decide.2 ?_
  have h2 : v / 2 ^ k % 2 = 0 ∨ v / 2 ^ k % 2 = 1 := by omega
  rcases h2 with h2 | h2
  · rw [h2, Nat.mul_zero]; omega
  · rw [h2, Nat.mul_one]; omega
theorem even_mod {x q R : Nat} (hq : q % 2 = 0) : (x + q * R) % 2 = x % 2 := by
  obtain ⟨k, rfl⟩ : ∃ k, q = 2 * k := ⟨q / 2, by omega⟩
  rw [Nat.mul_assoc, Nat.add_mul_mod_self_left]
theorem bit_word {l : List Nat} (h : Ws l) (j r : Nat) (hj : j ≤ l.length) (hr : r < 32) : val l / 2 ^ (32 * j + r) % 2 = l.getD j 0 / 2 ^ r % 2 := by
  rw [drop_div h j r hj]
  have e : l.getD j 0 = (l.drop j).getD 0 0 := by rw [getD_drop, Nat.add_zero]
  rw [e]
  cases l.drop j with
  | nil => simp [val]
  | cons x t =>
    simp only [val, List.getD_cons_zero]
    rw [← pow_parts (by omega : r ≤ 32), Nat.mul_assoc, Nat.add_mul_div_left _ _ (Nat.two_pow_pos r)]
    refine even_mod ?_
    obtain ⟨k, hk⟩ : ∃ k, 32 - r = k + 1 := ⟨31 - r, by omega⟩
    rw [hk, Nat.pow_succ]; omega
theorem word_pair (x y s : Nat) (hx : x < 4294967296) (hs : s < 32) : (x ||| y * 4294967296) = x + y * 4294967296 ∧ (x + y * 4294967296) / 2 ^ s % 4294967296 = y * 2 ^ (32 - s) % 4294967296 + x / 2 ^ s := by
  refine ⟨?_, ?_⟩
  · have := Nat.two_pow_add_eq_or_of_lt (i := 32) hx y
    rw [Nat.or_comm, Nat.mul_comm y, show 4294967296 = 2 ^ 32 from rfl, ← this, Nat.add_comm]
  · have h1 := sum_low y x (32 - s) (by omega) hx
    rw [show 32 - (32 - s) = s by omega] at h1
    have h2 : (x + y * 4294967296) / 2 ^ s = x / 2 ^ s + y * 2 ^ (32 - s) := by
      rw [← pow_parts (by omega : s ≤ 32), show y * (2 ^ s * 2 ^ (32 - s)) = 2 ^ s * (y * 2 ^ (32 - s)) by grind, Nat.add_mul_div_left _ _ (Nat.two_pow_pos s)]
    rw [h2]
    generalize y * 2 ^ (32 - s) = X at *
    generalize x / 2 ^ s = Z at *
    omega
/-- The words of d divided by 2^s, one appended to the other. -/
structure RsT (d : List Nat) (s k : Nat) (S : List Nat) : Prop where
  len : S.length = k
  ws : Ws S
  sum : 2 ^ s * val S + d.getD 0 0 % 2 ^ s = val (d.take k) + 4294967296 ^ k * (d.getD k 0 % 2 ^ s)
theorem RsT.start (d : List Nat) (s : Nat) : RsT d s 0 [] := ⟨rfl, Ws.nil, by simp [val]⟩
theorem RsT.next {d : List Nat} {s k : Nat} {S : List Nat} (h : RsT d s k S) (hd : Ws d) (hs : s ≤ 32) : RsT d s (k + 1) (S ++ [shrW d s k]) := by
  obtain ⟨h1, h2, h4⟩ := h
  refine ⟨by rw [List.length_append, h1]; rfl, h2.append (Ws.cons (shrW_lt hd s k hs) Ws.nil), ?_⟩
  rw [val_snoc, h1, val_take_next d k]
  have e := shrW_times d s k hs
  rw [Nat.pow_succ]
  generalize 4294967296 ^ k = K at *
  generalize shrW d s k = W at *
  have e2 : K * (2 ^ s * W + d.getD k 0 % 2 ^ s) = K * (d.getD k 0 + 4294967296 * (d.getD (k + 1) 0 % 2 ^ s)) := by rw [e]
  grind
theorem RsT.whole {d : List Nat} {s : Nat} {S : List Nat} (h : RsT d s d.length S) : val S = val d / 2 ^ s := by
  have h4 := h.sum
  have e : d.getD d.length 0 = 0 := by rw [List.getD_eq_getElem?_getD, List.getElem?_eq_none (Nat.le_refl _)]; rfl
  rw [e, Nat.zero_mod, Nat.mul_zero, Nat.add_zero, List.take_of_length_le (Nat.le_refl _)] at h4
  rw [← h4, Nat.add_comm, Nat.add_mul_div_left _ _ (Nat.two_pow_pos s), Nat.div_eq_of_lt (Nat.mod_lt _ (Nat.two_pow_pos s)), Nat.zero_add]
end Go.Proofs.YtlabblkonkhmgaaDoor
