/-
  Plain lemmas: a number divided by a power of 2, and what is lost.
-/
import Derived.Test.YtclggnaljijjoaaRshl
namespace Go.Proofs.Ytclggnaljijjoaa
open Go.RowKit
theorem split_at (l : List Nat) (o : Nat) (ho : o ≤ l.length) : val l = val (l.take o) + 4294967296 ^ o * val (l.drop o) := by
  have h := val_part l o (l.length - o) ho
  rw [show o + (l.length - o) = l.length by omega, List.take_length, List.take_of_length_le (l := l.drop o) (by rw [List.length_drop]; omega)] at h
  exact h
theorem take_lt {l : List Nat} (h : Ws l) (o : Nat) (ho : o ≤ l.length) : val (l.take o) < 4294967296 ^ o := by
  have := val_lt (h.take o)
  rwa [List.length_take, Nat.min_eq_left ho] at this
theorem drop_div {l : List Nat} (h : Ws l) (o s : Nat) (ho : o ≤ l.length) : val l / 2 ^ (32 * o + s) = val (l.drop o) / 2 ^ s := by
  have h1 := take_lt h o ho
  rw [Nat.pow_add, ← pow32, ← Nat.div_div_eq_div_mul, split_at l o ho, Nat.add_mul_div_left _ _ (Nat.pow_pos (by omega)), Nat.div_eq_of_lt h1, Nat.zero_add]
theorem mod_parts {B T D P : Nat} (hT : T < B) (hP : 0 < P) : (T + B * D) % (B * P) = T + B * (D % P) := by
  have e : T + B * D = (T + B * (D % P)) + B * P * (D / P) := by
    have := Nat.div_add_mod D P
    have e2 : B * (P * (D / P) + D % P) = B * D := by rw [this]
    grind
  rw [e, Nat.add_mul_mod_self_left]
  refine Nat.mod_eq_of_lt ?_
  have h1 : B * (D % P + 1) ≤ B * P := Nat.mul_le_mul_left _ (Nat.mod_lt _ hP)
  rw [Nat.mul_add, Nat.mul_one] at h1
  omega
theorem head_mod {l : List Nat} {s : Nat} (hs : s ≤ 32) : val l % 2 ^ s = l.getD 0 0 % 2 ^ s := by
  cases l with
  | nil => simp [val]
  | cons x r =>
    simp only [val, List.getD_cons_zero]
    rw [← pow_parts hs, Nat.mul_assoc, Nat.add_mul_mod_self_left]
theorem drop_mod {l : List Nat} (h : Ws l) (o s : Nat) (ho : o ≤ l.length) (hs : s ≤ 32) : val l % 2 ^ (32 * o + s) = val (l.take o) + 4294967296 ^ o * (l.getD o 0 % 2 ^ s) := by
  rw [Nat.pow_add, ← pow32]
  conv => lhs; rw [split_at l o ho]
  rw [mod_parts (take_lt h o ho) (Nat.two_pow_pos s), head_mod hs, getD_drop, Nat.add_zero]
theorem zeros_take {l : List Nat} {k : Nat} (h : ∀ j, j < k → l.getD j 0 = 0) : val (l.take k) = 0 := val_all_zero fun j => by
  rcases Nat.lt_or_ge j k with hj | hj
  · rw [getD_take hj]; exact h j hj
  · rw [List.getD_eq_getElem?_getD, List.getElem?_take, if_neg (by omega)]; rfl
theorem loss_early {l : List Nat} (h : Ws l) (o s k : Nat) (ho : o ≤ l.length) (hs : s ≤ 32) (hk : k < o) (hx : l.getD k 0 ≠ 0) : decide (val l % 2 ^ (32 * o + s) ≠ 0) = true := by
  refine decide_eq_true ?_
  rw [drop_mod h o s ho hs]
  have e : val (l.take o) ≠ 0 := by
    intro z
    have h1 := nrm_val_zero z
    have h2 := val_part l k (o - k) (by omega)
    rw [show k + (o - k) = o by omega, z] at h2
    have h3 := val_part_succ l k 0 (by omega)
    have h4 : val ((l.drop k).take (o - k)) = 0 := by
      have hp : 0 < 4294967296 ^ k := Nat.pow_pos (by omega)
      rcases Nat.eq_zero_or_pos (val ((l.drop k).take (o - k))) with h5 | h5
      · exact h5
      · have := Nat.mul_pos hp h5; omega
    obtain ⟨m, hm⟩ : ∃ m, o - k = m + 1 := ⟨o - k - 1, by omega⟩
    rw [hm] at h4
    have h6 := List.getD_eq_getElem?_getD (l := (l.drop k).take (m + 1)) (i := 0) (a := 0)
    have h7 : ((l.drop k).take (m + 1)).getD 0 0 = l.getD k 0 := by rw [getD_take (by omega), getD_drop, Nat.add_zero]
    cases hc : (l.drop k).take (m + 1) with
    | nil => rw [hc] at h7; simp at h7; exact hx h7.symm
    | cons x r =>
      rw [hc] at h4 h7
      simp only [val] at h4
      simp only [List.getD_cons_zero] at h7
      omega
  omega
theorem loss_late {l : List Nat} (h : Ws l) (o s : Nat) (ho : o ≤ l.length) (hs : s ≤ 32) (hz : ∀ j, j < o → l.getD j 0 = 0) : decide (val l % 2 ^ (32 * o + s) ≠ 0) = decide (l.getD o 0 * 2 ^ (32 - s) % 4294967296 ≠ 0) := by
  rw [drop_mod h o s ho hs, zeros_take hz, Nat.zero_add]
  have h1 := mul_mod_low (l.getD o 0) (32 - s) (by omega)
  rw [show 32 - (32 - s) = s by omega] at h1
  rw [h1]
  have hp : 0 < 4294967296 ^ o := Nat.pow_pos (by omega)
  have hq : 0 < 2 ^ (32 - s) := Nat.two_pow_pos _
  refine decide_eq_decide.2 ?_
  constructor
  · intro a b
    rcases Nat.mul_eq_zero.1 b with b | b
    · omega
    · rw [b, Nat.mul_zero] at a; exact a rfl
  · intro a b
    rcases Nat.mul_eq_zero.1 b with b | b
    · omega
    · rw [b, Nat.mul_zero] at a; exact a rfl
theorem RW.drop {w : World} {B b off : Nat} {l : List Nat} (h : RW w B (some ⟨b, off, none⟩) l) (o : Nat) (ho : o < l.length) : RW w B (some ⟨b, off + o, none⟩) (l.drop o) := ⟨h.1.drop o, fun _ => by
  obtain ⟨b2, off2, he, hb, hc⟩ := h.2 (by omega)
  cases he
  refine ⟨b, off + o, rfl, hb, fun k u hu => ?_⟩
  rw [List.getElem?_drop] at hu
  rw [show off + o + k = off + (o + k) by omega]
  exact hc _ u hu⟩
end Go.Proofs.Ytclggnaljijjoaa
