/-
  Plain lemmas for Div of the program: long division, word by word.
-/
import Derived.Test.YtclggnaljijjoaaShPow
namespace Go.Proofs.Ytclggnaljijjoaa
/-- What stands in a row when x times k words of b were taken from it from o on; q is to be taken behind them. -/
structure TakeT (R : List Nat) (o : Nat) (b : List Nat) (x k : Nat) (S : List Nat) (q : Nat) : Prop where
  len : S.length = R.length
  ws : Ws S
  far : ∀ j, j < o ∨ o + k ≤ j → S.getD j 0 = R.getD j 0
  sum : val ((S.drop o).take k) + x * val (b.take k) = val ((R.drop o).take k) + 4294967296 ^ k * q
  low : q < 4294967296
theorem TakeT.start {R : List Nat} (o : Nat) (b : List Nat) (x : Nat) (hR : Ws R) : TakeT R o b x 0 R 0 := ⟨rfl, hR, fun _ _ => rfl, by simp [val], by omega⟩
/-- What is taken at the place of the next word. -/
def takC (b : List Nat) (x k q : Nat) : Nat := q + b.getD k 0 * x
/-- The next word, and what is to be taken behind it. -/
def takW (r t : Nat) : Nat := (r + 4294967296 * 2 - t % 4294967296 - 0) % 4294967296
def takB (r t : Nat) : Nat := if r < t % 4294967296 + 0 then 1 else 0
theorem takC_le {b : List Nat} {x k q : Nat} (hb : Ws b) (hx : x < 4294967296) (hq : q < 4294967296) : b.getD k 0 * x ≤ 18446744065119617025 ∧ takC b x k q ≤ 18446744069414584320 := by
  have h1 := hb.getD k
  have h3 : b.getD k 0 * x ≤ 4294967295 * 4294967295 := Nat.mul_le_mul (by omega) (by omega)
  unfold takC
  omega
theorem tak_step (r t : Nat) (hr : r < 4294967296) : takW r t + t = r + 4294967296 * (t / 4294967296 + takB r t) := by
  unfold takW takB
  split <;> omega
theorem tak_low (r t : Nat) (ht : t ≤ 18446744069414584320) : t / 4294967296 + takB r t < 4294967296 := by
  unfold takB
  split <;> omega
theorem TakeT.next {R : List Nat} {o : Nat} {b : List Nat} {x k : Nat} {S : List Nat} {q : Nat} (h : TakeT R o b x k S q) (hR : Ws R) (hb : Ws b) (hx : x < 4294967296) (ho : o + k < R.length) :
    S.getD (o + k) 0 = R.getD (o + k) 0 ∧ TakeT R o b x (k + 1) (S.set (o + k) (takW (R.getD (o + k) 0) (takC b x k q))) (takC b x k q / 4294967296 + takB (R.getD (o + k) 0) (takC b x k q)) := by
  obtain ⟨h1, h2, h3, h4, h5⟩ := h
  have ht := (takC_le (k := k) hb hx h5).2
  have hl := tak_low (R.getD (o + k) 0) _ ht
  have hs := tak_step (R.getD (o + k) 0) (takC b x k q) (hR.getD _)
  have hc : takC b x k q = q + b.getD k 0 * x := rfl
  refine ⟨h3 _ (.inr (Nat.le_refl _)), by rw [List.length_set]; exact h1, h2.set (by unfold takW; omega), fun j hj => ?_, ?_, hl⟩
  · rw [getD_set_ne (by omega), h3 j (by omega)]
  · rw [val_part_succ _ o k (by rw [List.length_set]; omega), val_part_succ R o k ho, val_take_next b k, getD_set_eq (by omega)]
    rw [part_congr (l := S.set (o + k) (takW (R.getD (o + k) 0) (takC b x k q))) (m := S) o k (by rw [List.length_set]; omega) (by omega) (fun j _ hj => getD_set_ne (by omega))]
    rw [Nat.pow_succ]
    generalize takW (R.getD (o + k) 0) (takC b x k q) = W at *
    generalize takC b x k q / 4294967296 + takB (R.getD (o + k) 0) (takC b x k q) = Q at *
    generalize 4294967296 ^ k = K at *
    generalize takC b x k q = t at *
    generalize R.getD (o + k) 0 = r at *
    have e : K * (W + t) = K * (r + 4294967296 * Q) := by rw [hs]
    rw [hc] at e
    grind
/-- The state of a step: S holds at o what is left when often times b were taken, and one is to be given back, if below is 1. -/
structure StepT (R : List Nat) (o : Nat) (b : List Nat) (S : List Nat) (often below : Nat) : Prop where
  len : S.length = R.length
  ws : Ws S
  far : ∀ j, j < o ∨ o + (b.length + 1) ≤ j → S.getD j 0 = R.getD j 0
  sum : val ((S.drop o).take (b.length + 1)) + often * val b = val ((R.drop o).take (b.length + 1)) + 4294967296 ^ (b.length + 1) * below
  high : val ((R.drop o).take (b.length + 1)) / val b ≤ often
  low : below ≤ 1
  word : often < 4294967296
theorem TakeT.step {R : List Nat} {o : Nat} {b : List Nat} {x : Nat} {S : List Nat} {q : Nat} (h : TakeT R o b x b.length S q) (ho : o + b.length < R.length) (hR : Ws R) (hx : x < 4294967296)
    (hq : val ((R.drop o).take (b.length + 1)) / val b ≤ x) :
    S.getD (o + b.length) 0 = R.getD (o + b.length) 0 ∧
    StepT R o b (S.set (o + b.length) ((R.getD (o + b.length) 0 + 4294967296 * 2 - q - 0) % 4294967296)) x (if R.getD (o + b.length) 0 < q + 0 then 1 else 0) := by
  obtain ⟨h1, h2, h3, h4, h5⟩ := h
  refine ⟨h3 _ (.inr (Nat.le_refl _)), by rw [List.length_set]; exact h1, h2.set (by omega), fun j hj => ?_, ?_, hq, by split <;> omega, hx⟩
  · rw [getD_set_ne (by omega), h3 j (by omega)]
  · rw [val_part_succ _ o _ (by rw [List.length_set]; omega), val_part_succ R o _ ho, getD_set_eq (by omega)]
    rw [part_congr (l := S.set (o + b.length) _) (m := S) o b.length (by rw [List.length_set]; omega) (by omega) (fun j _ hj => getD_set_ne (by omega))]
    rw [List.take_of_length_le (Nat.le_refl b.length)] at h4
    have hr := hR.getD (o + b.length)
    generalize R.getD (o + b.length) 0 = r at *
    have key : (r + 4294967296 * 2 - q - 0) % 4294967296 + q = r + 4294967296 * (if r < q + 0 then 1 else 0) := by split <;> omega
    generalize (r + 4294967296 * 2 - q - 0) % 4294967296 = W at *
    generalize (if r < q + 0 then 1 else 0) = c at *
    rw [Nat.pow_succ]
    generalize 4294967296 ^ b.length = K at *
    have e : K * (W + q) = K * (r + 4294967296 * c) := by rw [key]
    grind
theorem StepT.fin {R : List Nat} {o : Nat} {b : List Nat} {S : List Nat} {often : Nat} (h : StepT R o b S often 0) (hb : 0 < val b) :
    often = val ((R.drop o).take (b.length + 1)) / val b ∧ val ((S.drop o).take (b.length + 1)) = val ((R.drop o).take (b.length + 1)) % val b := by
  obtain ⟨h1, h2, h3, h4, h5, _, _⟩ := h
  rw [Nat.mul_zero, Nat.add_zero] at h4
  generalize val ((R.drop o).take (b.length + 1)) = P at *
  generalize val ((S.drop o).take (b.length + 1)) = s at *
  generalize val b = D at *
  have e1 : often ≤ P / D := by rw [Nat.le_div_iff_mul_le hb]; omega
  have e2 : often = P / D := by omega
  refine ⟨e2, ?_⟩
  have e3 := Nat.div_add_mod P D
  rw [← e2, Nat.mul_comm] at e3
  omega
theorem StepT.more {R : List Nat} {o : Nat} {b : List Nat} {S : List Nat} {often : Nat} (h : StepT R o b S often 1) (hb : 0 < val b) (ho : o + b.length < R.length) :
    0 < often ∧ val ((R.drop o).take (b.length + 1)) / val b < often := by
  obtain ⟨h1, h2, h3, h4, h5, _, _⟩ := h
  have hl := val_lt ((h2.drop o).take (b.length + 1))
  rw [List.length_take, List.length_drop, Nat.min_eq_left (by omega)] at hl
  generalize val ((R.drop o).take (b.length + 1)) = P at *
  generalize val ((S.drop o).take (b.length + 1)) = s at *
  generalize val b = D at *
  have e : P / D < often := by rw [Nat.div_lt_iff_lt_mul hb]; omega
  exact ⟨Nat.lt_of_le_of_lt (Nat.zero_le _) e, e⟩
theorem StepT.back {R : List Nat} {o : Nat} {b : List Nat} {S : List Nat} {often : Nat} {T : List Nat} {q : Nat} (h : StepT R o b S often 1) (hb : 0 < val b) (ho : o + b.length < R.length)
    (hT : AddT S o b 1 b.length T q) :
    T.getD (o + b.length) 0 = S.getD (o + b.length) 0 ∧ (S.getD (o + b.length) 0 + q + 0) / 4294967296 ≤ 1 ∧
    StepT R o b (T.set (o + b.length) ((S.getD (o + b.length) 0 + q + 0) % 4294967296)) (often - 1) (1 - (S.getD (o + b.length) 0 + q + 0) / 4294967296) := by
  obtain ⟨m1, m2⟩ := h.more hb ho
  obtain ⟨h1, h2, h3, h4, h5, h6, h7⟩ := h
  obtain ⟨g1, g2, g3, g4, g5⟩ := hT
  have hs := h2.getD (o + b.length)
  refine ⟨g3 _ (.inr (Nat.le_refl _)), by omega, by rw [List.length_set]; omega, g2.set (by omega), fun j hj => ?_, ?_, by omega, by omega, by omega⟩
  · rw [getD_set_ne (by omega), g3 j (by omega), h3 j (by omega)]
  · rw [val_part_succ _ o _ (by rw [List.length_set]; omega), getD_set_eq (by omega)]
    rw [part_congr (l := T.set (o + b.length) _) (m := T) o b.length (by rw [List.length_set]; omega) (by omega) (fun j _ hj => getD_set_ne (by omega))]
    rw [val_part_succ S o _ (by omega)] at h4
    rw [List.take_of_length_le (Nat.le_refl b.length)] at g4
    obtain ⟨k, rfl⟩ : ∃ k, often = k + 1 := ⟨often - 1, by omega⟩
    have hc : (S.getD (o + b.length) 0 + q + 0) / 4294967296 ≤ 1 := by omega
    generalize S.getD (o + b.length) 0 = r at *
    obtain ⟨c, hcc⟩ : ∃ c, (r + q + 0) / 4294967296 = c := ⟨_, rfl⟩
    obtain ⟨W, hW⟩ : ∃ W, (r + q + 0) % 4294967296 = W := ⟨_, rfl⟩
    have key : W + 4294967296 * c = r + q := by omega
    rw [hcc] at hc ⊢
    rw [hW]
    rw [Nat.pow_succ] at h4 ⊢
    generalize 4294967296 ^ b.length = K at *
    have e : K * (W + 4294967296 * c) = K * (r + q) := by rw [key]
    rw [Nat.add_sub_cancel]
    obtain ⟨d, hd⟩ : ∃ d, 1 - c = d := ⟨_, rfl⟩
    have hcd : c + d = 1 := by omega
    rw [hd]
    have e2 : K * 4294967296 * (c + d) = K * 4294967296 * 1 := by rw [hcd]
    grind
/-- A word that goes into two words is no less than what goes into the whole. -/
theorem guess_div {P D h1 h0 t K p' d' : Nat} (hP : P = p' + K * (h0 + 4294967296 * h1)) (hp : p' < K) (hD : D = d' + K * t) (ht : 0 < t) : P / D ≤ (h1 * 4294967296 + h0) / t := by
  rcases Nat.eq_zero_or_pos K with hK | hK
  · omega
  rw [Nat.le_div_iff_mul_le ht]
  have e1 : P / D * D ≤ P := Nat.div_mul_le_self P D
  generalize P / D = q at *
  have e2 : q * D = q * d' + K * (q * t) := by rw [hD]; grind
  have e3 : K * (q * t) < K * (h0 + 4294967296 * h1 + 1) := by rw [Nat.mul_add K, Nat.mul_one]; omega
  have := Nat.lt_of_mul_lt_mul_left e3
  omega
end Go.Proofs.Ytclggnaljijjoaa
