/-
  Plain lemmas for Div of the program: long division, word by word. Plain lemmas for Div of the program: the words of the quotient, one after the other. Contracts of bits.Div32, of a natural copied to a row, and of divideWord. What a natural and an errno are, put as a list and a code. Contracts of Cmp of the program and of the reference. Contracts of word, of Add32, of Add and Plus. Contract of checked. Contracts of Plus and Add of the reference. Contract of Add of the reference; how many words sums and products have. Contract of Sub32. Contract of guess. Contracts of subTimes and of divideStep. Contract of shiftRight, when a row is written to itself. Contract of Sub of the program. Contracts of Less and Sub of the reference. Contract of Less of the reference, once more: the difference lies in a row of the call's own. The law BignumNorms. Contract of Sub of the reference; what a natural and an errno are, put as a list and a code. What Div tells: a quotient, a rest, an error; put as two lists and a code. Contract of Up of the reference. Contracts of Shl of the reference and of the program, whole. Contract of Halved of the reference.
-/
import Derived.Test.YtbinpcoaghpcdaaRB
import Derived.Test.YtbinpcoaghpcdaaRA
import Derived.Test.YtbinpcoaghpcdaaOr
import Derived.Test.YtbinpcoaghpcdaaPlain
import Derived.Laws.BitsAllLaws
import Derived.Deep.RegionWith
import Derived.Deep.DeepCutAuto
namespace Go.Proofs.Ytbinpcoaghpcdaa
/-- What stands in a row when x times k words of b were taken from it from o on; q is to be taken behind them. -/
structure TakeT (R : List Nat) (o : Nat) (b : List Nat) (x k : Nat) (S : List Nat) (q : Nat) : Prop where
  len : S.length = R.length
  ws : Ws S
  far : ∀ j, j < o ∨ o + k ≤ j → S.getD j 0 = R.getD j 0
  sum : val ((S.drop o).take k) + x * val (b.take k) = val ((R.drop o).take k) + 4294967296 ^ k * q
  low : q < 4294967296
theorem TakeT.start {R : List Nat} (o : Nat) (b : List Nat) (x : Nat) (hR : Ws R) : TakeT R o b x 0 R 0 := ⟨rfl, hR, fun _ _ => rfl, by simp [val], by omega⟩
/-- What is taken at the place of the next word. -/
def takC (b : List Nat) (x k q : Nat) : Nat := q + b.getD k 0 * x
/-- The next word, and what is to be taken behind it. -/
def takW (r t : Nat) : Nat := (r + 4294967296 * 2 - t % 4294967296 - 0) % 4294967296
def takB (r t : Nat) : Nat := if r < t % 4294967296 + 0 then 1 else 0
theorem takC_le {b : List Nat} {x k q : Nat} (hb : Ws b) (hx : x < 4294967296) (hq : q < 4294967296) : b.getD k 0 * x ≤ 18446744065119617025 ∧ takC b x k q ≤ 18446744069414584320 := by
  have h1 := hb.getD k
  have h3 : b.getD k 0 * x ≤ 4294967295 * 4294967295 := Nat.mul_le_mul (by omega) (by omega)
  unfold takC
  omega
theorem tak_step (r t : Nat) (hr : r < 4294967296) : takW r t + t = r + 4294967296 * (t / 4294967296 + takB r t) := by
  unfold takW takB
  split <;> omega
theorem tak_low (r t : Nat) (ht : t ≤ 18446744069414584320) : t / 4294967296 + takB r t < 4294967296 := by
  unfold takB
  split <;> omega
theorem TakeT.next {R : List Nat} {o : Nat} {b : List Nat} {x k : Nat} {S : List Nat} {q : Nat} (h : TakeT R o b x k S q) (hR : Ws R) (hb : Ws b) (hx : x < 4294967296) (ho : o + k < R.length) :
    S.getD (o + k) 0 = R.getD (o + k) 0 ∧ TakeT R o b x (k + 1) (S.set (o + k) (takW (R.getD (o + k) 0) (takC b x k q))) (takC b x k q / 4294967296 + takB (R.getD (o + k) 0) (takC b x k q)) := by
  obtain ⟨h1, h2, h3, h4, h5⟩ := h
  have ht := (takC_le (k := k) hb hx h5).2
  have hl := tak_low (R.getD (o + k) 0) _ ht
  have hs := tak_step (R.getD (o + k) 0) (takC b x k q) (hR.getD _)
  have hc : takC b x k q = q + b.getD k 0 * x := rfl
  refine ⟨h3 _ (.inr (Nat.le_refl _)), by rw [List.length_set]; exact h1, h2.set (by unfold takW; omega), fun j hj => ?_, ?_, hl⟩
  · rw [getD_set_ne (by omega), h3 j (by omega)]
  · rw [val_part_succ _ o k (by rw [List.length_set]; omega), val_part_succ R o k ho, val_take_next b k, getD_set_eq (by omega)]
    rw [part_congr (l := S.set (o + k) (takW (R.getD (o + k) 0) (takC b x k q))) (m := S) o k (by rw [List.length_set]; omega) (by omega) (fun j _ hj => getD_set_ne (by omega))]
    rw [Nat.pow_succ]
    generalize takW (R.getD (o + k) 0) (takC b x k q) = W at *
    generalize takC b x k q / 4294967296 + takB (R.getD (o + k) 0) (takC b x k q) = Q at *
    generalize 4294967296 ^ k = K at *
    generalize takC b x k q = t at *
    generalize R.getD (o + k) 0 = r at *
    have e : K * (W + t) = K * (r + 4294967296 * Q) := by rw [hs]
    rw [hc] at e
    grind
/-- The state of a step: S holds at o what is left when often times b were taken, and one is to be given back, if below is 1. -/
structure StepT (R : List Nat) (o : Nat) (b : List Nat) (S : List Nat) (often below : Nat) : Prop where
  len : S.length = R.length
  ws : Ws S
  far : ∀ j, j < o ∨ o + (b.length + 1) ≤ j → S.getD j 0 = R.getD j 0
  sum : val ((S.drop o).take (b.length + 1)) + often * val b = val ((R.drop o).take (b.length + 1)) + 4294967296 ^ (b.length + 1) * below
  high : val ((R.drop o).take (b.length + 1)) / val b ≤ often
  low : below ≤ 1
  word : often < 4294967296
theorem TakeT.step {R : List Nat} {o : Nat} {b : List Nat} {x : Nat} {S : List Nat} {q : Nat} (h : TakeT R o b x b.length S q) (ho : o + b.length < R.length) (hR : Ws R) (hx : x < 4294967296)
    (hq : val ((R.drop o).take (b.length + 1)) / val b ≤ x) :
    S.getD (o + b.length) 0 = R.getD (o + b.length) 0 ∧
    StepT R o b (S.set (o + b.length) ((R.getD (o + b.length) 0 + 4294967296 * 2 - q - 0) % 4294967296)) x (if R.getD (o + b.length) 0 < q + 0 then 1 else 0) := by
  obtain ⟨h1, h2, h3, h4, h5⟩ := h
  refine ⟨h3 _ (.inr (Nat.le_refl _)), by rw [List.length_set]; exact h1, h2.set (by omega), fun j hj => ?_, ?_, hq, by split <;> omega, hx⟩
  · rw [getD_set_ne (by omega), h3 j (by omega)]
  · rw [val_part_succ _ o _ (by rw [List.length_set]; omega), val_part_succ R o _ ho, getD_set_eq (by omega)]
    rw [part_congr (l := S.set (o + b.length) _) (m := S) o b.length (by rw [List.length_set]; omega) (by omega) (fun j _ hj => getD_set_ne (by omega))]
    rw [List.take_of_length_le (Nat.le_refl b.length)] at h4
    have hr := hR.getD (o + b.length)
    generalize R.getD (o + b.length) 0 = r at *
    have key : (r + 4294967296 * 2 - q - 0) % 4294967296 + q = r + 4294967296 * (if r < q + 0 then 1 else 0) := by split <;> omega
    generalize (r + 4294967296 * 2 - q - 0) % 4294967296 = W at *
    generalize (if r < q + 0 then 1 else 0) = c at *
    rw [Nat.pow_succ]
    generalize 4294967296 ^ b.length = K at *
    have e : K * (W + q) = K * (r + 4294967296 * c) := by rw [key]
    grind
theorem StepT.fin {R : List Nat} {o : Nat} {b : List Nat} {S : List Nat} {often : Nat} (h : StepT R o b S often 0) (hb : 0 < val b) :
    often = val ((R.drop o).take (b.length + 1)) / val b ∧ val ((S.drop o).take (b.length + 1)) = val ((R.drop o).take (b.length + 1)) % val b := by
  obtain ⟨h1, h2, h3, h4, h5, _, _⟩ := h
  rw [Nat.mul_zero, Nat.add_zero] at h4
  generalize val ((R.drop o).take (b.length + 1)) = P at *
  generalize val ((S.drop o).take (b.length + 1)) = s at *
  generalize val b = D at *
  have e1 : often ≤ P / D := by rw [Nat.le_div_iff_mul_le hb]; omega
  have e2 : often = P / D := by omega
  refine ⟨e2, ?_⟩
  have e3 := Nat.div_add_mod P D
  rw [← e2, Nat.mul_comm] at e3
  omega
theorem StepT.more {R : List Nat} {o : Nat} {b : List Nat} {S : List Nat} {often : Nat} (h : StepT R o b S often 1) (hb : 0 < val b) (ho : o + b.length < R.length) :
    0 < often ∧ val ((R.drop o).take (b.length + 1)) / val b < often := by
  obtain ⟨h1, h2, h3, h4, h5, _, _⟩ := h
  have hl := val_lt ((h2.drop o).take (b.length + 1))
  rw [List.length_take, List.length_drop, Nat.min_eq_left (by omega)] at hl
  generalize val ((R.drop o).take (b.length + 1)) = P at *
  generalize val ((S.drop o).take (b.length + 1)) = s at *
  generalize val b = D at *
  have e : P / D < often := by rw [Nat.div_lt_iff_lt_mul hb]; omega
  exact ⟨Nat.lt_of_le_of_lt (Nat.zero_le _) e, e⟩
theorem StepT.back {R : List Nat} {o : Nat} {b : List Nat} {S : List Nat} {often : Nat} {T : List Nat} {q : Nat} (h : StepT R o b S often 1) (hb : 0 < val b) (ho : o + b.length < R.length)
    (hT : AddT S o b 1 b.length T q) :
    T.getD (o + b.length) 0 = S.getD (o + b.length) 0 ∧ (S.getD (o + b.length) 0 + q + 0) / 4294967296 ≤ 1 ∧
    StepT R o b (T.set (o + b.length) ((S.getD (o + b.length) 0 + q + 0) % 4294967296)) (often - 1) (1 - (S.getD (o + b.length) 0 + q + 0) / 4294967296) := by
  obtain ⟨m1, m2⟩ := h.more hb ho
  obtain ⟨h1, h2, h3, h4, h5, h6, h7⟩ := h
  obtain ⟨g1, g2, g3, g4, g5⟩ := hT
  have hs := h2.getD (o + b.length)
  refine ⟨g3 _ (.inr (Nat.le_refl _)), by omega, by rw [List.length_set]; omega, g2.set (by omega), fun j hj => ?_, ?_, by omega, by omega, by omega⟩
  · rw [getD_set_ne (by omega), g3 j (by omega), h3 j (by omega)]
  · rw [val_part_succ _ o _ (by rw [List.length_set]; omega), getD_set_eq (by omega)]
    rw [part_congr (l := T.set (o + b.length) _) (m := T) o b.length (by rw [List.length_set]; omega) (by omega) (fun j _ hj => getD_set_ne (by omega))]
    rw [val_part_succ S o _ (by omega)] at h4
    rw [List.take_of_length_le (Nat.le_refl b.length)] at g4
    obtain ⟨k, rfl⟩ : ∃ k, often = k + 1 := ⟨often - 1, by omega⟩
    have hc : (S.getD (o + b.length) 0 + q + 0) / 4294967296 ≤ 1 := by omega
    generalize S.getD (o + b.length) 0 = r at *
    obtain ⟨c, hcc⟩ : ∃ c, (r + q + 0) / 4294967296 = c := ⟨_, rfl⟩
    obtain ⟨W, hW⟩ : ∃ W, (r + q + 0) % 4294967296 = W := ⟨_, rfl⟩
    have key : W + 4294967296 * c = r + q := by omega
    rw [hcc] at hc ⊢
    rw [hW]
    rw [Nat.pow_succ] at h4 ⊢
    generalize 4294967296 ^ b.length = K at *
    have e : K * (W + 4294967296 * c) = K * (r + q) := by rw [key]
    rw [Nat.add_sub_cancel]
    obtain ⟨d, hd⟩ : ∃ d, 1 - c = d := ⟨_, rfl⟩
    have hcd : c + d = 1 := by omega
    rw [hd]
    have e2 : K * 4294967296 * (c + d) = K * 4294967296 * 1 := by rw [hcd]
    grind
end Go.Proofs.Ytbinpcoaghpcdaa
namespace Go.Proofs.Ytbinpcoaghpcdaa
/-- The state of the long division of A by D (of n words), i of the M words of the quotient still to come. -/
structure LongT (A D n M i : Nat) (R Q : List Nat) : Prop where
  lenR : R.length = M + n
  lenQ : Q.length = M
  wsR : Ws R
  wsQ : Ws Q
  sum : val R + 4294967296 ^ i * (val (Q.drop i) * D) = A
  rest : val (R.drop i) < D
theorem LongT.start {va vb s la n M : Nat} {R : List Nat} (hR : Ws R) (hl : R.length = M + n) (hM : la + 1 = M + n) (hn : 0 < n) (ha : va < 4294967296 ^ la) (hb : 4294967296 ^ (n - 1) ≤ vb) (hv : val R = 2 ^ s * va) :
    LongT (2 ^ s * va) (2 ^ s * vb) n M M R (List.replicate M 0) := by
  refine ⟨hl, List.length_replicate, hR, Ws.zeros _, ?_, ?_⟩
  · rw [List.drop_of_length_le (by rw [List.length_replicate]; exact Nat.le_refl _)]
    simp [val, hv]
  · have e := val_split R M (by omega)
    rw [hv] at e
    have e2 : 4294967296 ^ la = 4294967296 ^ M * 4294967296 ^ (n - 1) := by rw [← Nat.pow_add]; congr 1; omega
    have h1 : 2 ^ s * va < 2 ^ s * (4294967296 ^ M * 4294967296 ^ (n - 1)) := by rw [← e2]; exact Nat.mul_lt_mul_of_pos_left ha (Nat.two_pow_pos s)
    have h2 : 4294967296 ^ M * val (R.drop M) < 4294967296 ^ M * (2 ^ s * 4294967296 ^ (n - 1)) := by
      have : 4294967296 ^ M * (2 ^ s * 4294967296 ^ (n - 1)) = 2 ^ s * (4294967296 ^ M * 4294967296 ^ (n - 1)) := by grind
      omega
    have h3 := Nat.lt_of_mul_lt_mul_left h2
    exact Nat.lt_of_lt_of_le h3 (Nat.mul_le_mul_left _ hb)
theorem LongT.part {A D n M i : Nat} {R Q : List Nat} (h : LongT A D n M (i + 1) R Q) (hi : i < M) (hD : D < 4294967296 ^ n) :
    val ((R.drop i).take (n + 1)) = val (R.drop i) ∧ val ((R.drop i).take (n + 1)) < 4294967296 * D := by
  have e := val_drop_cons R i (by have := h.lenR; omega)
  have h1 := h.wsR.getD i
  have h2 := h.rest
  have h3 : val (R.drop i) < 4294967296 * D := by
    have : 4294967296 * (val (R.drop (i + 1)) + 1) ≤ 4294967296 * D := Nat.mul_le_mul_left _ h2
    omega
  have h4 : val (R.drop i) < 4294967296 ^ (n + 1) := by
    rw [Nat.pow_succ, Nat.mul_comm]
    exact Nat.lt_trans h3 (Nat.mul_lt_mul_of_pos_left hD (by omega))
  have h5 := val_take_small h4
  exact ⟨h5, by rw [h5]; exact h3⟩
theorem LongT.next {A D n M i : Nat} {R Q S : List Nat} (h : LongT A D n M (i + 1) R Q) (hi : i < M) (hD : D < 4294967296 ^ n) (hD0 : 0 < D)
    (hlen : S.length = R.length) (hws : Ws S) (hfar : ∀ j, j < i ∨ i + (n + 1) ≤ j → S.getD j 0 = R.getD j 0)
    (hs : val ((S.drop i).take (n + 1)) = val ((R.drop i).take (n + 1)) % D) :
    LongT A D n M i S (Q.set i (val ((R.drop i).take (n + 1)) / D)) := by
  obtain ⟨p1, p2⟩ := h.part hi hD
  obtain ⟨h1, h2, h3, h4, h5, h6⟩ := h
  have hq : val ((R.drop i).take (n + 1)) / D < 4294967296 := by rw [Nat.div_lt_iff_lt_mul hD0]; exact p2
  have r1 := val_split (R.drop i) (n + 1) (by rw [List.length_drop]; omega)
  have s1 := val_split (S.drop i) (n + 1) (by rw [List.length_drop]; omega)
  have e1 : val ((S.drop i).drop (n + 1)) = val ((R.drop i).drop (n + 1)) := by
    rw [List.drop_drop, List.drop_drop]
    exact val_eq (fun j => by rw [getD_drop, getD_drop]; exact hfar _ (.inr (by omega)))
  have e2 : 4294967296 ^ (n + 1) * val ((R.drop i).drop (n + 1)) = 0 := by omega
  rw [e1, e2, Nat.add_zero] at s1
  have e3 : val (R.take i) = val (S.take i) := by
    rw [take_congr (l := R) (m := S) i (by omega) (by omega) (fun j hj => (hfar j (.inl hj)).symm)]
  have r2 := val_split R i (by omega)
  have s2 := val_split S i (by omega)
  have e4 : val (R.drop i) = val (S.drop i) + val (R.drop i) / D * D := by
    rw [s1, hs, p1, Nat.mul_comm]
    exact (Nat.mod_add_div _ _).symm
  have q1 := val_drop_cons (Q.set i (val ((R.drop i).take (n + 1)) / D)) i (by rw [List.length_set]; omega)
  rw [getD_set_eq (by omega)] at q1
  have e5 : (Q.set i (val ((R.drop i).take (n + 1)) / D)).drop (i + 1) = Q.drop (i + 1) := by
    rw [List.drop_set, if_pos (by omega)]
  rw [e5] at q1
  refine ⟨by omega, by rw [List.length_set]; exact h2, hws, h4.set hq, ?_, ?_⟩
  · rw [q1, s2, ← e3, p1]
    rw [r2] at h5
    rw [Nat.pow_succ] at h5
    generalize val (R.drop i) / D = q at *
    generalize val (Q.drop (i + 1)) = V at *
    generalize 4294967296 ^ i = K at *
    rw [e4] at h5
    grind
  · rw [s1, hs]; exact Nat.mod_lt _ hD0
theorem LongT.fin {A D n M : Nat} {R Q : List Nat} (h : LongT A D n M 0 R Q) (hD0 : 0 < D) : val Q = A / D ∧ val R = A % D := by
  obtain ⟨h1, h2, h3, h4, h5, h6⟩ := h
  rw [Nat.pow_zero, Nat.one_mul, List.drop_zero] at h5
  rw [List.drop_zero] at h6
  have e1 : A / D = val Q := by
    rw [← h5, Nat.add_mul_div_right _ _ hD0, Nat.div_eq_of_lt h6, Nat.zero_add]
  have e2 := Nat.mod_add_div A D
  rw [e1] at e2
  refine ⟨e1.symm, ?_⟩
  rw [Nat.mul_comm] at e2
  omega
/-! ### bit by bit -/
theorem or_bit (x s : Nat) (h : x / 2 ^ s % 2 = 0) : x ||| 2 ^ s = x + 2 ^ s := by
  have h1 := Nat.mod_pow_succ (b := 2) (x := x) (k := s)
  rw [h, Nat.mul_zero] at h1
  have h2 := Nat.mod_add_div x (2 ^ (s + 1))
  rw [h1, Nat.add_zero] at h2
  have hl : x % 2 ^ s < 2 ^ s := Nat.mod_lt _ (Nat.two_pow_pos s)
  generalize x % 2 ^ s = l at *
  generalize x / 2 ^ (s + 1) = q at *
  have hp : 2 ^ (s + 1) = 2 * 2 ^ s := by rw [Nat.pow_succ, Nat.mul_comm]
  have e1 : x = 2 ^ (s + 1) * q ||| l := by rw [← Nat.two_pow_add_eq_or_of_lt (by omega), Nat.add_comm]; exact h2.symm
  have e2 : 2 ^ s * 1 ||| l = 2 ^ s + l := by rw [← Nat.two_pow_add_eq_or_of_lt hl, Nat.mul_one]
  rw [Nat.mul_one] at e2
  have e3 : x ||| 2 ^ s = 2 ^ (s + 1) * q ||| (2 ^ s + l) := by rw [e1, Nat.or_assoc, Nat.or_comm l, e2]
  rw [e3, ← Nat.two_pow_add_eq_or_of_lt (by omega)]
  omega
theorem half_div {X v bit : Nat} (hv : 0 < v) (hb : bit < 2) :
    (v ≤ 2 * (X % v) + bit → (2 * X + bit) / v = 2 * (X / v) + 1 ∧ (2 * X + bit) % v = 2 * (X % v) + bit - v) ∧
    (2 * (X % v) + bit < v → (2 * X + bit) / v = 2 * (X / v) ∧ (2 * X + bit) % v = 2 * (X % v) + bit) := by
  have e := Nat.mod_add_div X v
  have hr := Nat.mod_lt X hv
  generalize X % v = r at *
  generalize X / v = q at *
  refine ⟨fun h => ?_, fun h => ?_⟩
  · have e2 : 2 * X + bit = (2 * r + bit - v) + v * (2 * q + 1) := by
      have : v * (2 * q + 1) = 2 * (v * q) + v := by grind
      omega
    rw [e2, Nat.add_mul_div_left _ _ hv, Nat.add_mul_mod_self_left, Nat.div_eq_of_lt (by omega), Nat.mod_eq_of_lt (by omega)]
    omega
  · have e2 : 2 * X + bit = (2 * r + bit) + v * (2 * q) := by
      have : v * (2 * q) = 2 * (v * q) := by grind
      omega
    rw [e2, Nat.add_mul_div_left _ _ hv, Nat.add_mul_mod_self_left, Nat.div_eq_of_lt h, Nat.mod_eq_of_lt h]
    omega
/-- The state of the division bit by bit, i bits still to come: Q is the quotient so far, r the rest. -/
structure HalfT (a : List Nat) (v i : Nat) (Q : List Nat) (r : Nat) : Prop where
  len : Q.length = a.length
  ws : Ws Q
  sum : val Q = 2 ^ i * (val a / 2 ^ i / v)
  rest : r = val a / 2 ^ i % v
theorem HalfT.start {a : List Nat} (ha : Ws a) (v : Nat) : HalfT a v (32 * a.length) (List.replicate a.length 0) 0 := by
  have h := val_lt ha
  rw [pow32] at h
  refine ⟨List.length_replicate, Ws.zeros _, ?_, ?_⟩
  · rw [val_zeros, Nat.div_eq_of_lt h, Nat.zero_div, Nat.mul_zero]
  · rw [Nat.div_eq_of_lt h, Nat.zero_mod]
theorem half_bit {a : List Nat} (ha : Ws a) (j s : Nat) (hj : j ≤ a.length) (hs : s < 32) : val a / 2 ^ (32 * j + s) = 2 * (val a / 2 ^ (32 * j + s + 1)) + a.getD j 0 / 2 ^ s % 2 := by
  have h := bit_word ha j s hj hs
  rw [← h, Nat.pow_succ, ← Nat.div_div_eq_div_mul]
  omega
theorem HalfT.down {a : List Nat} {v j s : Nat} {Q : List Nat} {r : Nat} (h : HalfT a v (32 * j + s + 1) Q r) (ha : Ws a) (hv : 0 < v) (hj : j < a.length) (hs : s < 32) (hlt : 2 * r + a.getD j 0 / 2 ^ s % 2 < v) :
    HalfT a v (32 * j + s) Q (2 * r + a.getD j 0 / 2 ^ s % 2) := by
  obtain ⟨h1, h2, h3, h4⟩ := h
  have e := half_bit ha j s (by omega) hs
  have hb : a.getD j 0 / 2 ^ s % 2 < 2 := Nat.mod_lt _ (by omega)
  rw [h4] at hlt
  obtain ⟨g1, g2⟩ := (half_div (X := val a / 2 ^ (32 * j + s + 1)) hv hb).2 hlt
  refine ⟨h1, h2, ?_, ?_⟩
  · rw [h3, e, g1, Nat.pow_succ]; grind
  · rw [e, g2, h4]
theorem HalfT.up {a : List Nat} {v j s : Nat} {Q : List Nat} {r : Nat} (h : HalfT a v (32 * j + s + 1) Q r) (ha : Ws a) (hv : 0 < v) (hj : j < a.length) (hs : s < 32) (hle : v ≤ 2 * r + a.getD j 0 / 2 ^ s % 2) :
    Q.getD j 0 ||| 2 ^ s < 4294967296 ∧ HalfT a v (32 * j + s) (Q.set j (Q.getD j 0 ||| 2 ^ s)) (2 * r + a.getD j 0 / 2 ^ s % 2 - v) := by
  obtain ⟨h1, h2, h3, h4⟩ := h
  have e := half_bit ha j s (by omega) hs
  have hb : a.getD j 0 / 2 ^ s % 2 < 2 := Nat.mod_lt _ (by omega)
  rw [h4] at hle
  obtain ⟨g1, g2⟩ := (half_div (X := val a / 2 ^ (32 * j + s + 1)) hv hb).1 hle
  have hbit := bit_word h2 j s (by omega) hs
  have hz : val Q / 2 ^ (32 * j + s) % 2 = 0 := by
    rw [h3, Nat.pow_succ, Nat.mul_assoc, Nat.mul_div_cancel_left _ (Nat.two_pow_pos _)]
    omega
  rw [hz] at hbit
  have hor := or_bit _ s hbit.symm
  have hlt : Q.getD j 0 ||| 2 ^ s < 4294967296 := Nat.or_lt_two_pow (n := 32) (h2.getD j) (Nat.pow_lt_pow_right (by omega) hs)
  refine ⟨hlt, by rw [List.length_set]; exact h1, h2.set hlt, ?_, ?_⟩
  · have q1 := val_split Q j (by omega)
    have q2 := val_drop_cons Q j (by omega)
    have s1 := val_split (Q.set j (Q.getD j 0 ||| 2 ^ s)) j (by rw [List.length_set]; omega)
    have s2 := val_drop_cons (Q.set j (Q.getD j 0 ||| 2 ^ s)) j (by rw [List.length_set]; omega)
    have e7 : (Q.set j (Q.getD j 0 ||| 2 ^ s)).drop (j + 1) = Q.drop (j + 1) := by rw [List.drop_set, if_pos (by omega)]
    rw [getD_set_eq (by omega), e7] at s2
    rw [take_congr (l := Q.set j _) (m := Q) j (by rw [List.length_set]; omega) (by omega) (fun k hk => getD_set_ne (by omega))] at s1
    have e5 : val (Q.set j (Q.getD j 0 ||| 2 ^ s)) = val Q + 2 ^ (32 * j + s) := by
      rw [s1, s2, q1, q2, hor, Nat.pow_add, pow32]; grind
    rw [e5, h3, e, g1, Nat.pow_succ]; grind
  · rw [e, g2, h4]
theorem HalfT.fin {a : List Nat} {v : Nat} {Q : List Nat} {r : Nat} (h : HalfT a v 0 Q r) : val Q = val a / v ∧ r = val a % v := by
  obtain ⟨h1, h2, h3, h4⟩ := h
  rw [Nat.pow_zero, Nat.div_one] at h3 h4
  exact ⟨by omega, h4⟩
end Go.Proofs.Ytbinpcoaghpcdaa
namespace Go.Proofs.Ytbinpcoaghpcdaa
open Go.RowKit
end Go.Proofs.Ytbinpcoaghpcdaa
namespace Go.Proofs.Ytbinpcoaghpcdaa
open Go.RowKit
def Two (L : List Nat) (n k : Nat) (w : World) (e : Ending) (w' : World) : Prop := ∃ A c, e = .returned (.tuple #[.slice A n c, .int .i64 (k : Nat)]) ∧ (n ≤ c ∧ RW w' w'.heap.size A L) ∧ Below w.heap.size w w'
def natL (v : Nat) : List Nat := if lngB v = true then [] else wds v
def natK (v : Nat) : Nat := if lngB v = true then 3 else 0
theorem ErrPost.two {k : Nat} {w w' : World} {e : Ending} (h : ErrPost k w e w') : Two [] 0 k w e w' := ⟨none, 0, h.1, ⟨Nat.le_refl _, RW.nil _ _ _⟩, h.2⟩
theorem NatPost.two {v : Nat} {w w' : World} {e : Ending} (h : NatPost v w e w') : Two (natL v) (natL v).length (natK v) w e w' := by
  obtain ⟨A, n, c, k, h1, h2, h3⟩ := h
  unfold natL natK
  by_cases hl : lngB v = true
  · rw [if_pos hl] at h2
    obtain ⟨rfl, rfl, rfl, rfl⟩ := h2
    rw [if_pos hl, if_pos hl]
    exact ⟨none, 0, h1, ⟨Nat.le_refl _, RW.nil _ _ _⟩, h3⟩
  · rw [if_neg hl] at h2
    obtain ⟨rfl, h4, rfl, h5⟩ := h2
    rw [if_neg hl, if_neg hl]
    exact ⟨A, c, h1, ⟨h4, h5⟩, h3⟩
end Go.Proofs.Ytbinpcoaghpcdaa
namespace Go.Proofs.Ytbinpcoaghpcdaa
open Go.RowKit
def sgn (a b : Int) : Int := if a < b then -1 else if b < a then 1 else 0
/-- The order of two naturals: -1, 0 or 1. -/
def ord (l m : List Nat) : Int := sgn (val l) (val m)
theorem ordl_lt {l m : List Nat} (h : val l < val m) : ord l m = -1 := by unfold ord sgn; rw [if_pos (by omega)]
theorem ord_gt {l m : List Nat} (h : val m < val l) : ord l m = 1 := by unfold ord sgn; rw [if_neg (by omega), if_pos (by omega)]
theorem ord_eq {l m : List Nat} (h : val l = val m) : ord l m = 0 := by unfold ord sgn; rw [if_neg (by omega), if_neg (by omega)]
set_option maxRecDepth 100000 in
set_option maxHeartbeats 2000000 in
theorem rcmp_any (A C : Option Addr) (n c m d : Nat) (l k : List Nat) (B D : Nat) (w : World) (hn : l.length = n) (hm : n ≤ 35184372088832) (h : RW w B A l)
    (gn : k.length = m) (gm : m ≤ 35184372088832) (g : RW w D C k) :
    Calls Try.prog 107 #[.slice A n c, .slice C m d] w fun e w' => e = .returned (.int .i64 (ord l k)) ∧ w = w' := by
  have c1 := fun i => rword_any A n c i l B w hn hm h
  have c2 := fun i => rword_any C m d i k D w gn gm g
  have body : ∀ N : Nat, (n : Int) ≤ N → (m : Int) ≤ N → (N : Int) ≤ 35184372088832 → (((n : Int) < (m : Int) ∧ N = m) ∨ (¬ (n : Int) < (m : Int) ∧ N = n)) →
      Calls Try.prog 107 #[.slice A n c, .slice C m d] w fun e w' => e = .returned (.int .i64 (ord l k)) ∧ w = w' := by
    intro N h1 h2 h3 h4
    have HS := Lib.hid (show ∀ j, N ≤ j → l.getD j 0 = k.getD j 0 from fun j hj => by rw [getD_none (by omega), getD_none (by omega)])
    have HL := Lib.hid h.1
    have HK := Lib.hid g.1
    have C1 := Lib.hid c1
    have C2 := Lib.hid c2
    clear hn hm h gn gm g c1 c2 h1 h2
    rcases h4 with ⟨h4, rfl⟩ | ⟨h4, rfl⟩
    all_goals
      go_enter Try.func107, Try.ntmps107
      go_wp2
      go_loop [6] (fun i => ∃ q : Nat, i = .int .i64 ((q : Int) - 1) ∧ (q : Int) ≤ 35184372088832 ∧ Hid (∀ j, q ≤ j → l.getD j 0 = k.getD j 0)) (fun i => (intOf i + 1).toNat)
      case atStart => exact ⟨_, rfl, h3, HS⟩
      case round =>
        obtain ⟨q, rfl, hq, HQ⟩ := hrel
        by_cases h0 : q = 0
        · have HE := Lib.hid (show ord l k = 0 from ord_eq (val_eq (fun j => HQ.out j (by omega))))
          subst h0
          go_wp2
          go_ret
          exact ⟨ret_i64 (by rw [HE.out]), rfl⟩
        · obtain ⟨i, rfl⟩ : ∃ i, q = i + 1 := ⟨q - 1, by omega⟩
          have d1 := C1.out i
          have d2 := C2.out i
          by_cases hne : l.getD i 0 = k.getD i 0
          · obtain ⟨u, hu⟩ : ∃ u, l.getD i 0 = u := ⟨_, rfl⟩
            rw [← hne] at d2
            rw [hu] at d1 d2
            have HQ2 := Lib.hid (show ∀ j, i ≤ j → l.getD j 0 = k.getD j 0 from fun j hj => by
              by_cases e : j = i
              · rw [e]; exact hne
              · exact HQ.out j (by omega))
            clear hu hne
            go_wp2_with fail
            refine d1.mono ?_
            rintro e w' ⟨rfl, rfl⟩
            go_wp2_with fail
            refine d2.mono ?_
            rintro e w' ⟨rfl, rfl⟩
            go_wp2_with fail
            refine d1.mono ?_
            rintro e w' ⟨rfl, rfl⟩
            go_wp2_with fail
            refine d2.mono ?_
            rintro e w' ⟨rfl, rfl⟩
            go_wp2
            go_round
            case rel => exact ⟨i, by go_num, by omega, HQ2⟩
            case measure => simp [intOf]
          · rcases Nat.lt_or_gt_of_ne hne with hlt | hlt
            · have HE := Lib.hid (ordl_lt (cmp_at i l k HL.out HK.out (fun j hj => HQ.out j (by omega)) hlt))
              obtain ⟨u, hu⟩ : ∃ u, l.getD i 0 = u := ⟨_, rfl⟩
              obtain ⟨v, hv⟩ : ∃ v, k.getD i 0 = v := ⟨_, rfl⟩
              rw [hu] at d1 hlt
              rw [hv] at d2 hlt
              have hl1 : (u : Int) < (v : Int) := by omega
              clear hu hv hne hlt
              go_wp2_with fail
              refine d1.mono ?_
              rintro e w' ⟨rfl, rfl⟩
              go_wp2_with fail
              refine d2.mono ?_
              rintro e w' ⟨rfl, rfl⟩
              go_wp2
              go_ret
              exact ⟨ret_i64 (by rw [HE.out]), rfl⟩
            · have HE := Lib.hid (ord_gt (cmp_at i k l HK.out HL.out (fun j hj => (HQ.out j (by omega)).symm) hlt))
              obtain ⟨u, hu⟩ : ∃ u, l.getD i 0 = u := ⟨_, rfl⟩
              obtain ⟨v, hv⟩ : ∃ v, k.getD i 0 = v := ⟨_, rfl⟩
              rw [hu] at d1 hlt
              rw [hv] at d2 hlt
              have HL1 := Lib.hid (show (v : Int) < (u : Int) by omega)
              have hl2 : decide (u < v) = false := by simp; omega
              clear hu hv hne hlt
              go_wp2_with fail
              refine d1.mono ?_
              rintro e w' ⟨rfl, rfl⟩
              go_wp2_with fail
              refine d2.mono ?_
              rintro e w' ⟨rfl, rfl⟩
              go_wp2_with fail
              have hl1 := HL1.out
              clear hl2
              refine d1.mono ?_
              rintro e w' ⟨rfl, rfl⟩
              go_wp2_with fail
              refine d2.mono ?_
              rintro e w' ⟨rfl, rfl⟩
              go_wp2
              go_ret
              exact ⟨ret_i64 (by rw [HE.out]), rfl⟩
  rcases Nat.lt_or_ge n m with h4 | h4
  · exact body m (by omega) (by omega) (by omega) (.inl ⟨by omega, rfl⟩)
  · exact body n (by omega) (by omega) (by omega) (.inr ⟨by omega, rfl⟩)
end Go.Proofs.Ytbinpcoaghpcdaa
namespace Go.Proofs.Ytbinpcoaghpcdaa
open Go.RowKit
/-- What Add tells. -/
def AddP (v u : Nat) (w : World) (e : Ending) (w' : World) : Prop := if (lngB v || lngB u) = true then ErrPost 3 w e w' else NatPost (v + u) w e w'
end Go.Proofs.Ytbinpcoaghpcdaa
namespace Go.Proofs.Ytbinpcoaghpcdaa
open Go.RowKit
end Go.Proofs.Ytbinpcoaghpcdaa
namespace Go.Proofs.Ytbinpcoaghpcdaa
open Go.RowKit
set_option maxRecDepth 100000 in
set_option maxHeartbeats 1000000 in
theorem plus_any (A C : Option Addr) (n c m d : Nat) (l k : List Nat) (w : World) (hn : l.length = n) (hm : n ≤ 35184372087808) (h : RW w w.heap.size A l)
    (gn : k.length = m) (gm : m ≤ 35184372087808) (g : RW w w.heap.size C k) :
    Calls Try.prog 106 #[.slice A n c, .slice C m d] w (SlPost (wds (val l + val k)) w) := by
  obtain ⟨i0, hi, hz0, hz1, hz2⟩ := info_parts infoW
  have C1 := Lib.hid (fun W (hb : Below w.heap.size w W) i => rword_any A n c i l w.heap.size W hn (by omega) (h.below hb))
  have C2 := Lib.hid (fun W (hb : Below w.heap.size w W) i => rword_any C m d i k w.heap.size W gn (by omega) (g.below hb))
  have HL := Lib.hid h.1
  have HK := Lib.hid g.1
  have HN := Lib.hid hn
  have HM := Lib.hid gn
  have hn1 : (n : Int) ≤ 35184372087808 := by omega
  have hm1 : (m : Int) ≤ 35184372087808 := by omega
  clear hn hm h gn gm g
  go_enter Try.func106, Try.ntmps106
  go_wp2
  go_loopw [5, 6, 7] (fun v cv i wr => ∃ (q : Nat) (S : List Nat) (r : Nat), i = .int .i64 q ∧ cv = .int .u64 (r : Nat) ∧ (q : Int) ≤ 35184372087808 ∧ Hid (OwnW w.heap.size S v wr) ∧ Hid (SumT l k q S r) ∧ Hid (S.length = q) ∧ Hid (q ≤ max n m) ∧ Below w.heap.size w wr) (fun _ _ i _ => max n m - (intOf i).toNat)
  case atStart => exact ⟨0, [], 0, rfl, rfl, by omega, Lib.hid (OwnW.nil _ _), Lib.hid (SumT.start l k [] Ws.nil), Lib.hid rfl, Lib.hid (Nat.zero_le _), Below.refl _ _⟩
  case round =>
    obtain ⟨q, S, r, rfl, rfl, hq, HO, HT, HSL, HQ, hbw⟩ := hrel
    have hsl : S.length = q := HSL.out
    by_cases hend : n ≤ q ∧ m ≤ q
    · obtain ⟨h1, h2⟩ := hend
      obtain ⟨e1, e2⟩ := HT.out.end_ (by rw [HN.out]; exact h1) (by rw [HM.out]; exact h2) hsl
      have hr := HT.out.low
      have k1 : IntKind.u32.wrap (r : Int) = (r : Int) := IntWalk.u32_in _ (by omega)
      have d1 : decide (q < n) = false := by simp; omega
      have d2 : decide (q < m) = false := by simp; omega
      have HE1 := Lib.hid e1
      have HE2 := Lib.hid (show nrm (S ++ [r]) = wds (val l + val k) by rw [nrm_wds e1, e2])
      have HSL2 := Lib.hid (show (S.length + 1) * 4 ≤ 140737488355328 ∧ S.length + 1 ≤ maxLen ∧ S.length + 1 ≤ 35184372088832 by unfold maxLen; omega)
      clear h1 h2 e1 e2 hr hsl
      go_wp2_with (at_builtin; refine wpList_append_own _ rfl _ _ 61 rfl w.heap.size 69 i0 (.int .u32 0) 1 4 Try.underlying61 hi hz0 hz1 hz2 rfl (by decide) _ _ _ rfl (World.ownsRow.alloc (w := wr) HO.out _) ⟨wr.heap.size, 0, none⟩ 1 1 [.int .u32 (r : Nat)] rfl rfl ?c1 ?c2 ?c3 ?c4 ?c5 ?_)
      case c1 => exact (cell_one_new _ _ _)
      case c2 => simp [Value.oneCell']
      case c3 => exact HSL2.out.2.1
      case c4 => exact HSL2.out.1
      case c5 => have := hbw.size; simp; omega
      intro v' w2 hown hg _
      have ho := OwnW.snoc hown
      have hbb : Below w.heap.size w w2 := (hbw.alloc hbw.size _).grown hg (by have := hbw.size; simp; omega) (fun j hj => (World.ownsRow.lt HO.out j hj).1)
      obtain ⟨A2, c2, hv, hcc, hr2⟩ := ho.sl HE1.out
      obtain ⟨N2, hN2⟩ : ∃ N2, (S ++ [r]).length = N2 := ⟨_, rfl⟩
      have C3 := Lib.hid (rnorm_any A2 N2 c2 (S ++ [r]) w2.heap.size w2 hN2 (by rw [← hN2]; exact hcc) (by rw [← hN2, List.length_append]; exact HSL2.out.2.2) hr2)
      rw [hN2] at hv
      clear hown hg ho hr2 hcc hN2
      subst hv
      go_wp2_with fail
      refine C3.out.mono ?_
      rintro e w3 ⟨v3, rfl, ho3, hb3⟩
      rw [HE2.out] at ho3
      have HO3 := Lib.hid (ho3.sl (wds_ws _))
      clear ho3 C3
      go_wp2
      go_ret
      exact ⟨_, rfl, HO3.out, below_le hbb hb3⟩
    · have hx := HL.out.getD q
      have hy := HK.out.getD q
      have hr := HT.out.low
      obtain ⟨t, ht⟩ : ∃ t, sumC l k q r = t := ⟨_, rfl⟩
      have htl := sumC_lt (k := q) HL.out HK.out hr
      rw [ht] at htl
      have D1 := Lib.hid (C1.out wr hbw q)
      have D2 := Lib.hid (C2.out wr hbw q)
      have HNX := Lib.hid (show SumT l k (q + 1) (S ++ [t % 4294967296]) (t / 4294967296) by
        rw [← ht]
        refine HT.out.next HL.out HK.out (HT.out.ws.append (Ws.cons (by omega) Ws.nil)) ?_ ?_
        · rw [List.take_append_of_le_length (by omega)]
        · rw [List.getD_eq_getElem?_getD, List.getElem?_append_right (by omega), hsl]; simp)
      obtain ⟨x, hxe⟩ : ∃ x, l.getD q 0 = x := ⟨_, rfl⟩
      obtain ⟨y, hye⟩ : ∃ y, k.getD q 0 = y := ⟨_, rfl⟩
      have hsum : x + y + r = t := by rw [← hxe, ← hye]; exact ht
      rw [hxe] at D1 hx
      rw [hye] at D2 hy
      have k1 : IntKind.u64.wrap ((x : Int) + (y : Int)) = (x : Int) + (y : Int) := IntWalk.u64_in _ (by omega)
      have k2 : IntKind.u64.wrap ((x : Int) + (y : Int) + (r : Int)) = (t : Int) := by rw [IntWalk.u64_in _ (by omega)]; omega
      have hlt : decide (q < n) = true ∨ (decide (q < n) = false ∧ decide (q < m) = true) := by simp; omega
      have HSL2 := Lib.hid (show (S.length + 1) * 4 ≤ 140737488355328 ∧ S.length + 1 ≤ maxLen by unfold maxLen; omega)
      have HSL3 := Lib.hid (show (S ++ [t % 4294967296]).length = q + 1 by rw [List.length_append, hsl]; rfl)
      have HQ2 := Lib.hid (show q + 1 ≤ max n m by omega)
      have hq2 : ((q : Int) + 1) ≤ 35184372087808 := by omega
      clear hx hy hr ht htl hxe hye hsum hsl hend
      rcases hlt with d1 | ⟨d1, d2⟩
      all_goals
        go_wp2_with fail
        refine D1.out.mono ?_
        rintro e w1 ⟨rfl, rfl⟩
        go_wp2_with fail
        refine D2.out.mono ?_
        rintro e w1 ⟨rfl, rfl⟩
        go_wp2_with (at_builtin; refine wpList_append_own _ rfl _ _ 61 rfl w.heap.size 69 i0 (.int .u32 0) 1 4 Try.underlying61 hi hz0 hz1 hz2 rfl (by decide) _ _ _ rfl (World.ownsRow.alloc (w := wr) HO.out _) ⟨wr.heap.size, 0, none⟩ 1 1 [.int .u32 ((t % 4294967296 : Nat) : Int)] rfl rfl ?c1 ?c2 ?c3 ?c4 ?c5 ?_)
        case c1 => exact (cell_one_new _ _ _)
        case c2 => simp [Value.oneCell']
        case c3 => exact HSL2.out.2
        case c4 => exact HSL2.out.1
        case c5 => have := hbw.size; simp; omega
        intro v' w2 hown hg _
        have HO2 := Lib.hid (OwnW.snoc hown)
        have hbb : Below w.heap.size w w2 := (hbw.alloc hbw.size _).grown hg (by have := hbw.size; simp; omega) (fun j hj => (World.ownsRow.lt HO.out j hj).1)
        clear hown hg
        go_wp2
        go_roundw
        case rel => exact ⟨q + 1, _, t / 4294967296, by go_num, by go_num, by omega, HO2, HNX, HSL3, HQ2, hbb⟩
        case measure => have := HQ2.out; simp [intOf]; omega
end Go.Proofs.Ytbinpcoaghpcdaa
namespace Go.Proofs.Ytbinpcoaghpcdaa
open Go.RowKit
theorem twice_lt {P Q v u : Nat} (h1 : v < P) (h2 : u < P) (h3 : 2 * P ≤ Q) : v + u < Q := by omega
theorem sum_len_max (v u : Nat) : (wds (v + u)).length ≤ max (wds v).length (wds u).length + 1 := by
  obtain ⟨K, hK⟩ : ∃ K, max (wds v).length (wds u).length = K := ⟨_, rfl⟩
  rw [hK]
  exact wds_len_lt (twice_lt (Nat.lt_of_lt_of_le (wds_lt v) (Nat.pow_le_pow_right (by omega) (by omega))) (Nat.lt_of_lt_of_le (wds_lt u) (Nat.pow_le_pow_right (by omega) (by omega))) (pow_twice K))
end Go.Proofs.Ytbinpcoaghpcdaa
namespace Go.Proofs.Ytbinpcoaghpcdaa
open Go.RowKit
end Go.Proofs.Ytbinpcoaghpcdaa
namespace Go.Proofs.Ytbinpcoaghpcdaa
open Go.RowKit
end Go.Proofs.Ytbinpcoaghpcdaa
namespace Go.Proofs.Ytbinpcoaghpcdaa
open Go.RowKit
end Go.Proofs.Ytbinpcoaghpcdaa
namespace Go.Proofs.Ytbinpcoaghpcdaa
open Go.RowKit
end Go.Proofs.Ytbinpcoaghpcdaa
namespace Go.Proofs.Ytbinpcoaghpcdaa
open Go.RowKit
/-- What Sub tells. -/
def SubP (v u : Nat) (w : World) (e : Ending) (w' : World) : Prop := if (lngB v || lngB u) = true then ErrPost 3 w e w' else if v < u then ErrPost 1 w e w' else NatPost (v - u) w e w'
end Go.Proofs.Ytbinpcoaghpcdaa
namespace Go.Proofs.Ytbinpcoaghpcdaa
open Go.RowKit
/-- The next word of a difference of 64 bits, and its highest bit. -/
theorem less_word (x y r : Nat) (hx : x < 4294967296) (hy : y < 4294967296) (hr : r ≤ 1) :
    (((x : Int) - (y : Int) - (r : Int)) % 18446744073709551616) % 4294967296 = (((x + 4294967296 * 2 - y - r) % 4294967296 : Nat) : Int) ∧ (((x : Int) - (y : Int) - (r : Int)) % 18446744073709551616) / 9223372036854775808 = ((if x < y + r then 1 else 0 : Nat) : Int) := by
  constructor
  · omega
  · split <;> omega
end Go.Proofs.Ytbinpcoaghpcdaa
namespace Go.Proofs.Ytbinpcoaghpcdaa
open Go.RowKit
theorem OwnW.low {B C : Nat} {l : List Nat} {v : Value} {w : World} (h : OwnW C l v w) (hB : B ≤ C) : OwnW B l v w :=
  ⟨h.1, h.2.imp id (fun ⟨g, cap, cur, e, h1, r⟩ => ⟨g, cap, cur, e, Nat.le_trans hB h1, r⟩)⟩
/-- A call that tells n words l in a slice of memory of its own. -/
def ToldN (l : List Nat) (n : Nat) (w : World) (e : Ending) (w' : World) : Prop := ∃ A c, e = .returned (.slice A n c) ∧ (n ≤ c ∧ RW w' w'.heap.size A l ∧ ∀ ad, A = some ad → w.heap.size ≤ ad.block) ∧ Below w.heap.size w w'
theorem OwnPost.toldN {l : List Nat} {n : Nat} {w : World} {e : Ending} {w' : World} (hw : Ws l) (h : OwnPost l w e w') (hn : l.length = n) : ToldN l n w e w' := by
  obtain ⟨v, rfl, ho, hb⟩ := h
  obtain ⟨A, c, hv, hc, hr⟩ := ho.sl hw
  subst hv
  refine ⟨A, c, by rw [hn], ⟨by omega, hr, fun ad had => ?_⟩, hb⟩
  subst had
  rcases ho.2 with ⟨e, _⟩ | ⟨g, cap, cur, e, hB, _⟩
  · cases e
  · cases e; exact hB
theorem RW.other {w : World} {B g j : Nat} {A : Option Addr} {l : List Nat} (h : RW w B A l) (hA : ∀ ad, A = some ad → g < ad.block) (v : Value) : RW (w.setCell ⟨g, j, none⟩ v) B A l := ⟨h.1, fun hl => by
  obtain ⟨b, off, e, hb, hc⟩ := h.2 hl
  have hg : g < b := hA _ e
  refine ⟨b, off, e, hb, fun k u hu => ?_⟩
  rw [← hc k u hu]
  have := Below.heap_setCell w ⟨g, j, none⟩ v b (by simp; omega)
  simp [World.cell?, this]⟩
set_option maxRecDepth 100000 in
set_option maxHeartbeats 1000000 in
theorem less_own (A C : Option Addr) (n c m d : Nat) (l k : List Nat) (w : World) (hn : l.length = n) (hm : n ≤ 35184372087808) (h : RW w w.heap.size A l)
    (gn : k.length = m) (gm : m ≤ n) (g : RW w w.heap.size C k) (hle : val k ≤ val l) :
    Calls Try.prog 108 #[.slice A n c, .slice C m d] w (OwnPost (wds (val l - val k)) w) := by
  obtain ⟨i0, hi, hz0, hz1, hz2⟩ := info_parts infoW
  have C1 := Lib.hid (fun W (hb : Below w.heap.size w W) i => rword_any A n c i l w.heap.size W hn (by omega) (h.below hb))
  have C2 := Lib.hid (fun W (hb : Below w.heap.size w W) i => rword_any C m d i k w.heap.size W gn (by omega) (g.below hb))
  have HL := Lib.hid h.1
  have HK := Lib.hid g.1
  have HN := Lib.hid hn
  have HM := Lib.hid gn
  have HLE := Lib.hid hle
  have HMN := Lib.hid gm
  have hn1 : (n : Int) ≤ 35184372087808 := by omega
  clear hn hm h gn gm g hle
  go_enter Try.func108, Try.ntmps108
  go_wp2
  go_loopw [5, 6, 7] (fun v cv i wr => ∃ (q : Nat) (S : List Nat) (r : Nat), i = .int .i64 q ∧ cv = .int .u64 (r : Nat) ∧ q ≤ n ∧ Hid (OwnW w.heap.size S v wr) ∧ Hid (SubT l k q S r) ∧ Hid (S.length = q) ∧ Below w.heap.size w wr) (fun _ _ i _ => n - (intOf i).toNat)
  case atStart => exact ⟨0, [], 0, rfl, rfl, Nat.zero_le _, Lib.hid (OwnW.nil _ _), Lib.hid (SubT.start l k [] Ws.nil), Lib.hid rfl, Below.refl _ _⟩
  case round =>
    obtain ⟨q, S, r, rfl, rfl, hq, HO, HT, HSL, hbw⟩ := hrel
    by_cases hlt : q < n
    · have hx := HL.out.getD q
      have hy := HK.out.getD q
      have hr := HT.out.low
      have hsl : S.length = q := HSL.out
      have D1 := Lib.hid (C1.out wr hbw q)
      have D2 := Lib.hid (C2.out wr hbw q)
      obtain ⟨e1, e2⟩ := less_word (l.getD q 0) (k.getD q 0) r hx hy hr
      obtain ⟨t, ht⟩ : ∃ t, subW l k q r = t := ⟨_, rfl⟩
      obtain ⟨r2, hr2⟩ : ∃ r2, subC l k q r = r2 := ⟨_, rfl⟩
      have htl : t < 4294967296 := by rw [← ht]; unfold subW; omega
      rw [show (l.getD q 0 + 4294967296 * 2 - k.getD q 0 - r) % 4294967296 = t from ht] at e1
      rw [show (if l.getD q 0 < k.getD q 0 + r then 1 else 0) = r2 from hr2] at e2
      have HNX := Lib.hid (show SubT l k (q + 1) (S ++ [t]) r2 by
        rw [← hr2]
        refine HT.out.next HL.out HK.out (HT.out.ws.append (Ws.cons htl Ws.nil)) ?_ ?_
        · rw [List.take_append_of_le_length (by omega)]
        · rw [ht, List.getD_eq_getElem?_getD, List.getElem?_append_right (by omega), hsl]; simp)
      obtain ⟨x, hxe⟩ : ∃ x, l.getD q 0 = x := ⟨_, rfl⟩
      obtain ⟨y, hye⟩ : ∃ y, k.getD q 0 = y := ⟨_, rfl⟩
      rw [hxe] at D1 hx e1 e2
      rw [hye] at D2 hy e1 e2
      obtain ⟨z, hz⟩ : ∃ z : Int, ((x : Int) - (y : Int) - (r : Int)) % 18446744073709551616 = z := ⟨_, rfl⟩
      rw [hz] at e1 e2
      have hz2' : IntKind.u64.wrap (IntKind.u64.wrap ((x : Int) - (y : Int)) - (r : Int)) = z := by rw [IntKind.wrap_u64, IntKind.wrap_u64]; omega
      have HSL2 := Lib.hid (show (S.length + 1) * 4 ≤ 140737488355328 ∧ S.length + 1 ≤ maxLen by unfold maxLen; omega)
      have HSL3 := Lib.hid (show (S ++ [t]).length = q + 1 by rw [List.length_append, hsl]; rfl)
      have hq1 : (q : Int) < (n : Int) := by omega
      have hzb : 0 ≤ z := by omega
      clear hx hy hr ht hr2 htl hxe hye hsl hz
      go_wp2_with fail
      refine D1.out.mono ?_
      rintro e w1 ⟨rfl, rfl⟩
      go_wp2_with fail
      refine D2.out.mono ?_
      rintro e w1 ⟨rfl, rfl⟩
      go_wp2_with (at_builtin; refine wpList_append_own _ rfl _ _ 61 rfl w.heap.size 69 i0 (.int .u32 0) 1 4 Try.underlying61 hi hz0 hz1 hz2 rfl (by decide) _ _ _ rfl (World.ownsRow.alloc (w := wr) HO.out _) ⟨wr.heap.size, 0, none⟩ 1 1 [.int .u32 (t : Nat)] rfl rfl ?c1 ?c2 ?c3 ?c4 ?c5 ?_)
      case c1 => exact (cell_one_new _ _ _)
      case c2 => simp [Value.oneCell']
      case c3 => exact HSL2.out.2
      case c4 => exact HSL2.out.1
      case c5 => have := hbw.size; simp; omega
      intro v' w2 hown hg _
      have HO2 := Lib.hid (OwnW.snoc hown)
      have hbb : Below w.heap.size w w2 := (hbw.alloc hbw.size _).grown hg (by have := hbw.size; simp; omega) (fun j hj => (World.ownsRow.lt HO.out j hj).1)
      clear hown hg
      go_wp2
      go_roundw
      case rel => exact ⟨q + 1, _, r2, by go_num, rfl, by omega, HO2, HNX, HSL3, hbb⟩
      case measure => simp [intOf]; omega
    · have hqn : q = n := by omega
      have hsl : S.length = n := by rw [← hqn]; exact HSL.out
      have hv := (hqn ▸ HT.out : SubT l k n S r).whole (by rw [HN.out]; exact Nat.le_refl _) (by rw [HM.out]; exact HMN.out) hsl HLE.out
      have HE2 := Lib.hid (show nrm S = wds (val l - val k) by rw [nrm_wds HT.out.ws, hv])
      have hq1 : ¬ (q : Int) < (n : Int) := by omega
      have ho := HO.out
      obtain ⟨A2, c2, hv2, hcc, hr2⟩ := ho.sl HT.out.ws
      rw [hsl] at hv2 hcc
      have C3 := Lib.hid (rnorm_any A2 n c2 S wr.heap.size wr hsl hcc (by omega) hr2)
      clear ho hr2 hcc hsl hqn hv
      subst hv2
      go_wp2_with fail
      refine C3.out.mono ?_
      rintro e w3 ⟨v3, rfl, ho3, hb3⟩
      rw [HE2.out] at ho3
      have HO3 := Lib.hid (ho3.low hbw.size)
      clear ho3 C3
      go_wp2
      go_ret
      exact ⟨_, rfl, HO3.out, below_le hbw hb3⟩
end Go.Proofs.Ytbinpcoaghpcdaa
namespace Go.Proofs.Ytbinpcoaghpcdaa
open Go.RowKit
end Go.Proofs.Ytbinpcoaghpcdaa
namespace Go.Proofs.Ytbinpcoaghpcdaa
open Go.RowKit
theorem wds_mono {v u : Nat} (h : u ≤ v) : (wds u).length ≤ (wds v).length := wds_len_lt (Nat.lt_of_le_of_lt h (wds_lt v))
def addL (v u : Nat) : List Nat := if (lngB v || lngB u) = true then [] else natL (v + u)
def addK (v u : Nat) : Nat := if (lngB v || lngB u) = true then 3 else natK (v + u)
theorem AddP.two {v u : Nat} {w w' : World} {e : Ending} (h : AddP v u w e w') : Two (addL v u) (addL v u).length (addK v u) w e w' := by
  unfold AddP at h
  unfold addL addK
  by_cases hl : (lngB v || lngB u) = true
  · rw [if_pos hl] at h ⊢; rw [if_pos hl]; exact h.two
  · rw [if_neg hl] at h ⊢; rw [if_neg hl]; exact h.two
def subL (v u : Nat) : List Nat := if (lngB v || lngB u) = true then [] else if v < u then [] else natL (v - u)
def subK (v u : Nat) : Nat := if (lngB v || lngB u) = true then 3 else if v < u then 1 else natK (v - u)
theorem SubP.two {v u : Nat} {w w' : World} {e : Ending} (h : SubP v u w e w') : Two (subL v u) (subL v u).length (subK v u) w e w' := by
  unfold SubP at h
  unfold subL subK
  by_cases hl : (lngB v || lngB u) = true
  · rw [if_pos hl] at h ⊢; rw [if_pos hl]; exact h.two
  · rw [if_neg hl] at h ⊢; rw [if_neg hl]
    by_cases hv : v < u
    · rw [if_pos hv] at h ⊢; rw [if_pos hv]; exact h.two
    · rw [if_neg hv] at h ⊢; rw [if_neg hv]; exact h.two
end Go.Proofs.Ytbinpcoaghpcdaa
namespace Go.Proofs.Ytbinpcoaghpcdaa
open Go.RowKit
def DivT (Q R : List Nat) (t : Nat) (w : World) (e : Ending) (w' : World) : Prop :=
  ∃ A n c C m d, e = .returned (.tuple #[.slice A n c, .slice C m d, .int .i64 (t : Nat)]) ∧ (n = Q.length ∧ n ≤ c ∧ m = R.length ∧ m ≤ d ∧ RW w' w'.heap.size A Q ∧ RW w' w'.heap.size C R) ∧ Below w.heap.size w w'
/-- May these be divided? -/
def divB (v u : Nat) : Bool := !(lngB v || lngB u) && !decide (u = 0)
def divQ (v u : Nat) : List Nat := if divB v u = true then wds (v / u) else []
def divR (v u : Nat) : List Nat := if divB v u = true then wds (v % u) else []
def divK (v u : Nat) : Nat := if (lngB v || lngB u) = true then 3 else if u = 0 then 4 else 0
theorem divB_ok {v u : Nat} (h : (lngB v || lngB u) = false) (hu : 0 < u) : divB v u = true := by
  unfold divB; rw [h, decide_eq_false (by omega)]; rfl
theorem DivT.ok {v u : Nat} {w w' : World} {A C : Option Addr} {n c m d : Nat} (h : (lngB v || lngB u) = false) (hu : 0 < u) (hn : n = (wds (v / u)).length) (hc : n ≤ c) (hm : m = (wds (v % u)).length) (hd : m ≤ d)
    (hA : RW w' w'.heap.size A (wds (v / u))) (hC : RW w' w'.heap.size C (wds (v % u))) (hb : Below w.heap.size w w') : DivT (divQ v u) (divR v u) (divK v u) w (.returned (.tuple #[.slice A n c, .slice C m d, .int .i64 0])) w' := by
  have e0 : divK v u = 0 := by unfold divK; rw [if_neg (by rw [h]; simp), if_neg (by omega)]
  unfold divQ divR
  rw [e0, if_pos (divB_ok h hu), if_pos (divB_ok h hu)]
  exact ⟨A, n, c, C, m, d, rfl, ⟨hn, hc, hm, hd, hA, hC⟩, hb⟩
theorem DivT.long {v u : Nat} {w w' : World} (h : (lngB v || lngB u) = true) (hb : Below w.heap.size w w') : DivT (divQ v u) (divR v u) (divK v u) w (.returned (.tuple #[.slice none 0 0, .slice none 0 0, .int .i64 3])) w' := by
  have e0 : divK v u = 3 := by unfold divK; rw [if_pos h]
  have e1 : divB v u = false := by unfold divB; rw [h]; rfl
  unfold divQ divR
  rw [e0, if_neg (by rw [e1]; simp), if_neg (by rw [e1]; simp)]
  exact ⟨none, 0, 0, none, 0, 0, rfl, ⟨rfl, Nat.le_refl _, rfl, Nat.le_refl _, RW.nil _ _ _, RW.nil _ _ _⟩, hb⟩
theorem DivT.zero {v u : Nat} {w w' : World} (h : (lngB v || lngB u) = false) (hu : u = 0) (hb : Below w.heap.size w w') : DivT (divQ v u) (divR v u) (divK v u) w (.returned (.tuple #[.slice none 0 0, .slice none 0 0, .int .i64 4])) w' := by
  have e0 : divK v u = 4 := by unfold divK; rw [if_neg (by rw [h]; simp), if_pos hu]
  have e1 : divB v u = false := by unfold divB; rw [decide_eq_true hu]; simp
  unfold divQ divR
  rw [e0, if_neg (by rw [e1]; simp), if_neg (by rw [e1]; simp)]
  exact ⟨none, 0, 0, none, 0, 0, rfl, ⟨rfl, Nat.le_refl _, rfl, Nat.le_refl _, RW.nil _ _ _, RW.nil _ _ _⟩, hb⟩
end Go.Proofs.Ytbinpcoaghpcdaa
namespace Go.Proofs.Ytbinpcoaghpcdaa
open Go.RowKit
/-- The words of a times 2^(32 o + s), one appended to the other. -/
structure UpT (o : Nat) (a : List Nat) (s i : Nat) (S : List Nat) : Prop where
  len : S.length = o + i
  ws : Ws S
  sum : val S + 4294967296 ^ (o + i) * carL a s i = 4294967296 ^ o * (2 ^ s * val (a.take i))
theorem UpT.start (o : Nat) (a : List Nat) (s : Nat) : UpT o a s 0 (List.replicate o 0) := ⟨List.length_replicate, Ws.zeros _, by simp [val, carL, val_zeros]⟩
theorem carL_next (a : List Nat) (s i : Nat) (hs : s ≤ 32) : carL a s (i + 1) = a.getD i 0 * 2 ^ s / 4294967296 := by
  unfold carL; rw [if_neg (by omega), Nat.add_sub_cancel, mul_div_low _ s hs]
theorem UpT.next {o : Nat} {a : List Nat} {s i : Nat} {S : List Nat} (h : UpT o a s i S) (ha : Ws a) (hs : s ≤ 32) : UpT o a s (i + 1) (S ++ [shlW a s i]) := by
  obtain ⟨h1, h2, h3⟩ := h
  refine ⟨by rw [List.length_append, h1]; rfl, h2.append (Ws.cons (shlW_lt ha s i hs) Ws.nil), ?_⟩
  rw [val_snoc, h1, val_take_next, carL_next a s i hs]
  have e := step_words (4294967296 ^ (o + i)) (a.getD i 0 * 2 ^ s) (val S + 4294967296 ^ (o + i) * carL a s i) (4294967296 ^ o * (2 ^ s * (val (a.take i) + 4294967296 ^ i * a.getD i 0))) (by rw [h3, Nat.pow_add]; grind)
  rw [show o + (i + 1) = o + i + 1 by omega, Nat.pow_succ]
  unfold shlW
  grind
theorem UpT.whole {o : Nat} {a : List Nat} {s : Nat} {S : List Nat} (h : UpT o a s a.length S) : val (S ++ [carL a s a.length]) = val a * 2 ^ (32 * o + s) := by
  have h3 := h.sum
  rw [List.take_of_length_le (Nat.le_refl _)] at h3
  rw [val_snoc, h.len, h3, pow32, Nat.pow_add]
  grind
theorem carL_lt {a : List Nat} (ha : Ws a) (s i : Nat) (hs : s ≤ 32) : carL a s i < 2 ^ s := by
  unfold carL
  split
  · exact Nat.two_pow_pos s
  · exact div_lt_low _ s hs (ha.getD _)
theorem up_word (x k s : Nat) (hx : x < 4294967296) (hs : s < 32) (hk : k < 2 ^ s) : x * 2 ^ s < 18446744073709551616 ∧ k < 4294967296 ∧ (x * 2 ^ s ||| k) = x * 2 ^ s + k ∧ (x * 2 ^ s + k) % 4294967296 = x * 2 ^ s % 4294967296 + k ∧ (x * 2 ^ s + k) / 4294967296 = x * 2 ^ s / 4294967296 ∧ x * 2 ^ s + k < 18446744073709551616 := by
  have h1 : x * 2 ^ s ≤ x * 2 ^ 32 := Nat.mul_le_mul_left _ (Nat.pow_le_pow_right (by omega) (by omega))
  have h2 : 2 ^ s ≤ 2 ^ 31 := Nat.pow_le_pow_right (by omega) (by omega)
  have h3 : x * 2 ^ s ||| k = x * 2 ^ s + k := by rw [Nat.mul_comm, Nat.two_pow_add_eq_or_of_lt hk]
  have h4 := mul_mod_low x s (by omega)
  have h5 : 2 ^ s * (x % 2 ^ (32 - s) + 1) ≤ 2 ^ s * 2 ^ (32 - s) := Nat.mul_le_mul_left _ (Nat.mod_lt _ (Nat.two_pow_pos _))
  rw [pow_parts (by omega : s ≤ 32), Nat.mul_add, Nat.mul_one, ← h4] at h5
  generalize 2 ^ s = P at *
  generalize x * P = y at *
  refine ⟨by omega, by omega, h3, by omega, by omega, by omega⟩
set_option maxRecDepth 100000 in
set_option maxHeartbeats 1000000 in
theorem up_zero (A : Option Addr) (n c : Nat) (p : Int) (l : List Nat) (w : World) (hn : l.length = n) (hc : n ≤ c) (hm : n ≤ 4096) (h : RW w w.heap.size A l) (h0 : nrm l = []) :
    Calls Try.prog 91 #[.slice A n c, .int .i64 p] w (SlPost [] w) := by
  have c1 := (rnorm_any A n c l w.heap.size w hn hc (by omega) h).mono (fun e w' x => SlPost.of h.1.nrm x)
  rw [h0] at c1
  clear hn hc hm h h0
  go_enter Try.func91, Try.ntmps91
  go_wp2_with fail
  refine c1.mono ?_
  rintro e w1 ⟨v1, rfl, ⟨A1, c1, rfl, _, _⟩, b1⟩
  go_wp2
  go_ret
  exact ⟨_, rfl, Sl.nil _ _ _, b1⟩
set_option maxRecDepth 100000 in
set_option maxHeartbeats 2000000 in
theorem up_some (A : Option Addr) (n c p o s : Nat) (l : List Nat) (w : World) (hn : l.length = n) (hc : n ≤ c) (hm : n ≤ 4096) (h : RW w w.heap.size A l) (h0 : nrm l ≠ []) (hpo : p = 32 * o + s) (hs : s < 32) (ho : o ≤ 1024) :
    Calls Try.prog 91 #[.slice A n c, .int .i64 p] w (SlPost (wds (val l * 2 ^ p)) w) := by
  obtain ⟨i0, hi, hz0, hz1, hz2⟩ := info_parts infoW
  have c1 := (rnorm_any A n c l w.heap.size w hn hc (by omega) h).mono (fun e w' x => SlPost.of h.1.nrm x)
  have hpos : 0 < (nrm l).length := List.length_pos_iff.2 h0
  have hle := nrm_len l
  obtain ⟨N, hN⟩ : ∃ N, (nrm l).length = N := ⟨_, rfl⟩
  have HNN := Lib.hid hN
  rw [hN] at hpos hle
  obtain ⟨b, off, rfl, hb, hcell⟩ := h.2 (by omega)
  have HCELL := Lib.hid hcell
  have HA := Lib.hid h
  have HN := Lib.hid hn
  have HP := Lib.hid hpo
  have HS := Lib.hid hs
  have hN0 : ((N : Int) == 0) = false := by simp; omega
  have hN1 : (N : Int) ≤ 4096 := by omega
  have hn1 : (n : Int) ≤ 4096 := by omega
  have ho1 : (o : Int) ≤ 1024 := by omega
  have hs1 : (s : Int) < 32 := by omega
  have hs0 : (0 : Int) ≤ (s : Int) := by omega
  have e3 : (p : Int) / 32 = (o : Int) := by omega
  have e4 : (p : Int) % 32 = (s : Int) := by omega
  have p0 : (0 : Int) ≤ (p : Int) := by omega
  have HMK := Lib.hid (fun W => run_make_row' (P := Try.prog) 61 69 (.int .u32 0) 4 Try.underlying61 infoW rfl .i64 .i64 o (by omega) (by omega) W)
  clear hn hc hm h h0 hN hpos hle hcell hpo hs
  go_enter Try.func91, Try.ntmps91
  go_wp2_with fail
  refine c1.mono ?_
  rintro e w1 ⟨v1, rfl, ⟨A1, d1, rfl, _, _⟩, b1⟩
  rw [HNN.out]
  have hmk := HMK.out w1
  have HROW := Lib.hid (Row.made w1 o)
  have HB1 := Lib.hid (show Below w.heap.size w (w1.alloc (.cells (madeCells #[.int .u32 0] o) 69)) from b1.alloc b1.size _)
  have HOWN := Lib.hid (show OwnW w.heap.size (List.replicate o 0) (.slice (some ⟨w1.heap.size, 0, none⟩) o o) (w1.alloc (.cells (madeCells #[.int .u32 0] o) 69)) from by
    have := HROW.out.own b1.size (by rw [List.length_replicate]; unfold maxLen; omega)
    rw [List.length_replicate] at this; exact this)
  have HSTART := Lib.hid (UpT.start o l s)
  clear b1 c1 ho
  go_wp2
  clear hmk
  go_loopw [5, 6, 7] (fun v cv i wr => ∃ (q : Nat) (S : List Nat), i = .int .i64 q ∧ cv = .int .u64 (carL l s q : Nat) ∧ q ≤ n ∧ Hid (OwnW w.heap.size S v wr) ∧ Hid (UpT o l s q S) ∧ Below w.heap.size w wr) (fun _ _ i _ => n - (intOf i).toNat)
  case atStart => exact ⟨0, _, rfl, by simp [carL], Nat.zero_le _, HOWN, HSTART, HB1.out⟩
  case round =>
    obtain ⟨q, S, rfl, rfl, hq, HO, HT, hbw⟩ := hrel
    have HSL := Lib.hid (show (S.length + 1) * 4 ≤ 140737488355328 ∧ S.length + 1 ≤ maxLen ∧ S.length + 1 ≤ 35184372088832 by have := HT.out.len; unfold maxLen; omega)
    by_cases hlt : q < n
    · have hcl : wr.cell? ⟨b, off + q, none⟩ = some (.int .u32 (l.getD q 0 : Nat)) := by
        rw [hbw.cell (p := ⟨b, off + q, none⟩) hb]; exact HCELL.out q _ (getD_some (by rw [HN.out]; exact hlt))
      have HNX := Lib.hid (HT.out.next HA.out.1 (by have := HS.out; omega))
      have HNC := Lib.hid (carL_next l s q (by have := HS.out; omega))
      have hkl := carL_lt HA.out.1 s q (by have := HS.out; omega)
      have hxl := HA.out.1.getD q
      have HW := Lib.hid (show shlW l s q = l.getD q 0 * 2 ^ s % 4294967296 + carL l s q from rfl)
      obtain ⟨x, hx⟩ : ∃ x, l.getD q 0 = x := ⟨_, rfl⟩
      obtain ⟨k, hk⟩ : ∃ k, carL l s q = k := ⟨_, rfl⟩
      rw [hx] at hcl hxl HW HNC
      rw [hk] at hkl HW ⊢
      have HU := Lib.hid (up_word x k s hxl HS.out hkl)
      have hqq : (q : Int) < (n : Int) := by omega
      obtain ⟨y, hy⟩ : ∃ y, x * 2 ^ s = y := ⟨_, rfl⟩
      have k1 : IntKind.u64.wrap (x : Int) = (x : Int) := IntWalk.u64_in _ (by omega)
      have k2 : IntKind.u64.wrap ((x : Int) * 2 ^ s) = (y : Int) := by
        have e : ((x : Int) * 2 ^ s) = ((x * 2 ^ s : Nat) : Int) := by rw [Int.natCast_mul, Int.natCast_pow]; rfl
        rw [e, hy]
        exact IntWalk.u64_in _ (by have := HU.out.1; omega)
      obtain ⟨u1, u2, u3, u4, u5, u6⟩ := HU.out
      rw [hy] at u1 u3 u4 u5 u6 HW HNC
      obtain ⟨t, ht⟩ : ∃ t, y + k = t := ⟨_, rfl⟩
      rw [ht] at u3 u4 u5 u6
      have k3 : bits BinOp.or IntKind.u64 (y : Int) (k : Int) = (t : Int) := by rw [or_u64 y k u1 (by omega), u3]
      have ew : shlW l s q = t % 4294967296 := by rw [HW.out, u4]
      have ec : carL l s (q + 1) = t / 4294967296 := by rw [HNC.out, u5]
      rw [ew] at HNX
      have HEC := Lib.hid ec
      clear hx hk hkl hxl hlt hq u1 u2 u3 u4 u5 u6 ew ec ht hy HU HW HNC
      go_wp2_with (at_builtin; refine wpList_append_own _ rfl _ _ 61 rfl w.heap.size 69 i0 (.int .u32 0) 1 4 Try.underlying61 hi hz0 hz1 hz2 rfl (by decide) _ _ _ rfl (World.ownsRow.alloc (w := wr) HO.out _) ⟨wr.heap.size, 0, none⟩ 1 1 [.int .u32 ((t % 4294967296 : Nat) : Int)] rfl rfl ?c1 ?c2 ?c3 ?c4 ?c5 ?_)
      case c1 => exact (cell_one_new _ _ _)
      case c2 => simp [Value.oneCell']
      case c3 => exact HSL.out.2.1
      case c4 => exact HSL.out.1
      case c5 => have := hbw.size; simp; omega
      intro v' w2 hown hg _
      have HO2 := Lib.hid (OwnW.snoc hown)
      have hbb : Below w.heap.size w w2 := (hbw.alloc hbw.size _).grown hg (by have := hbw.size; simp; omega) (fun j hj => (World.ownsRow.lt HO.out j hj).1)
      clear hown hg
      go_wp2
      go_roundw
      case rel => exact ⟨q + 1, _, by go_num, by rw [HEC.out]; go_num, by omega, HO2, HNX, hbb⟩
      case measure => simp [intOf]; omega
    · have hqn : q = n := by omega
      subst hqn
      have HT2 := Lib.hid (show UpT o l s l.length S by rw [HN.out]; exact HT.out)
      have hk2 := carL_lt HA.out.1 s l.length (by have := HS.out; omega)
      have HV := HT2.out.whole
      have hlen := HT2.out.len
      rw [HN.out] at hk2 HV hlen
      obtain ⟨r, hr⟩ : ∃ r, carL l s q = r := ⟨_, rfl⟩
      rw [hr] at hk2 HV ⊢
      have hrl : r < 4294967296 := Nat.lt_of_lt_of_le hk2 (show 2 ^ s ≤ 2 ^ 32 from Nat.pow_le_pow_right (by omega) (by have := HS.out; omega))
      have k1 : IntKind.u32.wrap (r : Int) = (r : Int) := IntWalk.u32_in _ (by omega)
      have HE1 := Lib.hid (HT2.out.ws.append (Ws.cons hrl Ws.nil))
      have HE2 := Lib.hid (show nrm (S ++ [r]) = wds (val l * 2 ^ p) by rw [nrm_wds HE1.out, HV, HP.out])
      clear hk2 HV hlen hr hrl hlt hq
      go_wp2_with (at_builtin; refine wpList_append_own _ rfl _ _ 61 rfl w.heap.size 69 i0 (.int .u32 0) 1 4 Try.underlying61 hi hz0 hz1 hz2 rfl (by decide) _ _ _ rfl (World.ownsRow.alloc (w := wr) HO.out _) ⟨wr.heap.size, 0, none⟩ 1 1 [.int .u32 (r : Nat)] rfl rfl ?c1 ?c2 ?c3 ?c4 ?c5 ?_)
      case c1 => exact (cell_one_new _ _ _)
      case c2 => simp [Value.oneCell']
      case c3 => exact HSL.out.2.1
      case c4 => exact HSL.out.1
      case c5 => have := hbw.size; simp; omega
      intro v' w2 hown hg _
      have ho := OwnW.snoc hown
      have hbb : Below w.heap.size w w2 := (hbw.alloc hbw.size _).grown hg (by have := hbw.size; simp; omega) (fun j hj => (World.ownsRow.lt HO.out j hj).1)
      obtain ⟨A2, c2, hv, hcc, hr2⟩ := ho.sl HE1.out
      obtain ⟨N2, hN2⟩ : ∃ N2, (S ++ [r]).length = N2 := ⟨_, rfl⟩
      have C3 := Lib.hid (rnorm_any A2 N2 c2 (S ++ [r]) w2.heap.size w2 hN2 (by rw [← hN2]; exact hcc) (by rw [← hN2, List.length_append]; exact HSL.out.2.2) hr2)
      rw [hN2] at hv
      clear hown hg ho hr2 hcc hN2
      subst hv
      go_wp2_with fail
      refine C3.out.mono ?_
      rintro e w3 ⟨v3, rfl, ho3, hb3⟩
      rw [HE2.out] at ho3
      have HO3 := Lib.hid (ho3.sl (wds_ws _))
      clear ho3 C3
      go_wp2
      go_ret
      exact ⟨_, rfl, HO3.out, below_le hbb hb3⟩
theorem up_any (A : Option Addr) (n c p : Nat) (l : List Nat) (w : World) (hn : l.length = n) (hc : n ≤ c) (hm : n ≤ 4096) (h : RW w w.heap.size A l) (hp : p ≤ 32768) :
    Calls Try.prog 91 #[.slice A n c, .int .i64 p] w (SlPost (wds (val l * 2 ^ p)) w) := by
  by_cases h0 : nrm l = []
  · have := up_zero A n c p l w hn hc hm h h0
    rw [← val_nrm l, h0, show val [] = 0 from rfl, Nat.zero_mul]
    exact this
  · exact up_some A n c p (p / 32) (p % 32) l w hn hc hm h h0 (by omega) (by omega) (by omega)
end Go.Proofs.Ytbinpcoaghpcdaa
namespace Go.Proofs.Ytbinpcoaghpcdaa
open Go.RowKit
theorem btl_zero {l : List Nat} (h : Ws l) : btl l = 0 ↔ nrm l = [] := by
  constructor
  · intro e
    rcases Classical.em (nrm l = []) with h0 | h0
    · exact h0
    · have := (btl_bounds h h0).2.2; omega
  · intro e; unfold btl; rw [if_pos e]
end Go.Proofs.Ytbinpcoaghpcdaa
namespace Go.Proofs.Ytbinpcoaghpcdaa
open Go.RowKit
theorem lit_u1 (W : World) : RW (W.alloc (.cells #[.int .u32 1] 69)) (W.alloc (.cells #[.int .u32 1] 69)).heap.size (some ⟨W.heap.size, 0, none⟩) [1] := (lit_one W 1 (by omega)).more (by simp)
theorem plus_one (A : Option Addr) (n c : Nat) (l : List Nat) (W : World) (hn : l.length = n) (hm : n ≤ 4096) (h : RW W W.heap.size A l) :
    Calls Try.prog 106 #[.slice A n c, .slice (some ⟨W.heap.size, 0, none⟩) 1 1] (W.alloc (.cells #[.int .u32 1] 69)) (SlPost (wds (val l + 1)) (W.alloc (.cells #[.int .u32 1] 69))) := by
  have g := lit_u1 W
  have h2 : RW (W.alloc (.cells #[.int .u32 1] 69)) (W.alloc (.cells #[.int .u32 1] 69)).heap.size A l := h.step ((Below.refl _ _).alloc (Nat.le_refl _) _)
  generalize W.alloc (.cells #[.int .u32 1] 69) = W' at *
  exact plus_any A (some ⟨W.heap.size, 0, none⟩) n c 1 1 l [1] W' hn (by omega) h2 rfl (by omega) g
theorem or_one (y s : Nat) (hy : y < 4294967296) (hs : s < 32) : bits BinOp.or IntKind.u32 (y : Int) (2 ^ s % 4294967296) = ((y ||| 2 ^ s : Nat) : Int) := by
  have h : 2 ^ s < 4294967296 := Nat.pow_lt_pow_right (n := 32) (by omega) hs
  rw [← or_u32 y (2 ^ s) hy h, show ((2 : Int) ^ s) = ((2 ^ s : Nat) : Int) by rw [Int.natCast_pow]; rfl]
  generalize 2 ^ s = P at *
  rw [show (P : Int) % 4294967296 = (P : Int) by omega]
set_option maxRecDepth 100000 in
set_option maxHeartbeats 1000000 in
theorem halved_any (A C : Option Addr) (n c m d : Nat) (a b : List Nat) (w : World) (hn : a.length = n) (hm : n ≤ 1024) (h : RW w w.heap.size A a)
    (gn : b.length = m) (gm : m ≤ 1024) (g : RW w w.heap.size C b) (hnb : nrm b = b) (hb0 : 0 < val b) :
    Calls Try.prog 90 #[.slice A n c, .slice C m d] w (fun e w' => ∃ A2 n2 c2 C2 m2 d2, e = .returned (.tuple #[.slice A2 n2 c2, .slice C2 m2 d2]) ∧ (n2 = (wds (val a / val b)).length ∧ n2 ≤ c2 ∧ m2 = (wds (val a % val b)).length ∧ m2 ≤ d2 ∧ RW w' w'.heap.size A2 (wds (val a / val b)) ∧ RW w' w'.heap.size C2 (wds (val a % val b))) ∧ Below w.heap.size w w') := by
  have hmk := run_make_row' (P := Try.prog) 61 69 (.int .u32 0) 4 Try.underlying61 infoW rfl .i64 .i64 n (by omega) (by omega) w
  have HROW := Lib.hid (Row.made w n)
  have HBL := Lib.hid (show Below w.heap.size w (w.alloc (.cells (madeCells #[.int .u32 0] n) 69)) from (Below.refl _ _).alloc (Nat.le_refl _) _)
  have HA := Lib.hid h
  have HB := Lib.hid g
  have HN := Lib.hid hn
  have HM := Lib.hid gn
  have HB0 := Lib.hid hb0
  have HNB := Lib.hid hnb
  have HST := Lib.hid (show HalfT a (val b) (32 * n) (List.replicate n 0) 0 by rw [← hn]; exact HalfT.start h.1 _)
  have hn1 : (n : Int) ≤ 1024 := by omega
  have hm1 : (m : Int) ≤ 1024 := by omega
  have hbw : b = wds (val b) := by rw [← nrm_wds g.1, hnb]
  have HBW := Lib.hid (show (wds (val b)).length ≤ 1024 by rw [← hbw, gn]; exact gm)
  clear h g hn gn hb0 hnb hm gm hbw
  go_enter Try.func90, Try.ntmps90
  go_wp2
  clear hmk
  go_loopw [7, 8] (fun v i wr => ∃ (k : Nat) (Q : List Nat) (r : Nat), i = .int .i64 ((k : Int) - 1) ∧ k ≤ 32 * n ∧ Hid (Sl wr wr.heap.size v (wds r)) ∧ Hid (Row wr w.heap.size Q) ∧ Hid (HalfT a (val b) k Q r) ∧ Below w.heap.size w wr) (fun _ i _ => (intOf i + 1).toNat)
  case atStart => exact ⟨32 * n, _, 0, by rw [Int.natCast_mul]; rfl, Nat.le_refl _, Lib.hid (Sl.nil _ _ _), HROW, HST, HBL.out⟩
  case round =>
    obtain ⟨k, Q, r, rfl, hk, HS, HR, HT, hbw⟩ := hrel
    obtain ⟨A0, c0, rfl, hc0, hr0⟩ := HS.out
    obtain ⟨L0, hL0⟩ : ∃ L, (wds r).length = L := ⟨_, rfl⟩
    rw [hL0] at hc0 ⊢
    have hQl : Q.length = n := by rw [HT.out.len, HN.out]
    by_cases h0 : k = 0
    · subst h0
      obtain ⟨f1, f2⟩ := HT.out.fin
      have hlt := HR.out.lt
      have C1 := Lib.hid ((rnorm_any (some ⟨w.heap.size, 0, none⟩) n n Q wr.heap.size wr hQl (Nat.le_refl _) (by omega) ((HR.out.rw0 HT.out.ws).more hlt)).mono (fun e w' x => SlPost.of HT.out.ws.nrm x))
      rw [nrm_wds HT.out.ws, f1] at C1
      rw [f2] at hr0 hL0
      have HR0 := Lib.hid hr0
      have HC0 := Lib.hid hc0
      have HL0 := Lib.hid hL0
      clear f1 f2 hlt hr0 hc0 hL0 hQl
      go_wp2_with fail
      refine C1.out.mono ?_
      rintro e w2 ⟨v2, rfl, ⟨A2, c2, rfl, hc2, r2⟩, b2⟩
      have H2 := Lib.hid r2
      have H3 := Lib.hid hc2
      have H4 := Lib.hid (HR0.out.step b2)
      have H5 := Lib.hid (below_le hbw b2)
      clear r2 hc2 b2 C1
      go_wp2
      go_ret2
      exact ⟨A2, _, c2, A0, L0, c0, rfl, ⟨rfl, H3.out, HL0.out.symm, HC0.out, H2.out, H4.out⟩, H5.out⟩
    · obtain ⟨I, rfl⟩ : ∃ I, k = I + 1 := ⟨k - 1, by omega⟩
      rw [show (((I + 1 : Nat) : Int) - 1) = (I : Int) by omega]
      obtain ⟨j, s, hjs, hs⟩ : ∃ j s, I = 32 * j + s ∧ s < 32 := ⟨I / 32, I % 32, by omega, by omega⟩
      have hjn : j < n := by omega
      have hja : j < a.length := by rw [HN.out]; exact hjn
      have hrv : r < val b := by have := HT.out.rest; rw [this]; exact Nat.mod_lt _ HB0.out
      have l0 : L0 ≤ 1024 := by have := wds_mono (Nat.le_of_lt hrv); have := HBW.out; omega
      rw [hjs] at HT
      have HRW := Lib.hid (fun W (hb : Below w.heap.size w W) => HB.out.step hb)
      obtain ⟨ab, ao, rfl, hab, hca⟩ := HA.out.2 (by omega)
      have hcl := hca j _ (getD_some hja)
      have hxl := HA.out.1.getD j
      obtain ⟨x, hx⟩ : ∃ x, a.getD j 0 = x := ⟨_, rfl⟩
      obtain ⟨bt, hbt⟩ : ∃ bt, x / 2 ^ s % 2 = bt := ⟨_, rfl⟩
      have hb2 : bt < 2 := by omega
      have hba := bit_and x s (by rw [← hx]; exact hxl)
      rw [hbt] at hba
      have hup := fun h => (HT.out.up HA.out.1 HB0.out hja hs h)
      have hdown := fun h => (HT.out.down HA.out.1 HB0.out hja hs h)
      rw [hx, hbt] at hup hdown
      rw [hx] at hcl
      obtain ⟨L1, hL1⟩ : ∃ L, (wds (2 * r)).length = L := ⟨_, rfl⟩
      have l1 : L1 ≤ 1025 := by have := sum_len_max r r; rw [← Nat.two_mul, hL1] at this; omega
      obtain ⟨r2, hr2⟩ : ∃ r2, 2 * r + bt = r2 := ⟨_, rfl⟩
      obtain ⟨L2, hL2⟩ : ∃ L, (wds r2).length = L := ⟨_, rfl⟩
      have l2 : L2 ≤ 1026 := by
        have := sum_len_max (2 * r) bt
        have h3 : (wds bt).length ≤ 1 := wds_len_lt (by omega)
        rw [hr2] at this; omega
      obtain ⟨L3, hL3⟩ : ∃ L, (wds (r2 - val b)).length = L := ⟨_, rfl⟩
      rw [hr2] at hup hdown
      have K1 := Lib.hid (show Calls Try.prog 91 #[.slice A0 L0 c0, .int .i64 1] wr (Told (wds (2 * r)) L1 wr) from by
        have := up_any A0 L0 c0 1 (wds r) wr hL0 hc0 (by omega) hr0 (by omega)
        rw [wds_val, Nat.pow_one, Nat.mul_comm] at this
        exact this.mono fun _ _ y => y.told hL1)
      have K2 := Lib.hid (fun W A2 c2 (r1 : RW W W.heap.size A2 (wds (2 * r))) => show bt = 1 → Calls Try.prog 106 #[.slice A2 L1 c2, .slice (some ⟨W.heap.size, 0, none⟩) 1 1] (W.alloc (.cells #[.int .u32 1] 69)) (Told (wds r2) L2 (W.alloc (.cells #[.int .u32 1] 69))) from fun hb1 => by
        have := plus_one A2 L1 c2 (wds (2 * r)) W hL1 (by omega) r1
        rw [wds_val, show 2 * r + 1 = r2 by omega] at this
        exact this.mono fun _ _ y => y.told hL2)
      have K3 := Lib.hid (fun W A2 c2 (hb : Below w.heap.size w W) (r1 : RW W W.heap.size A2 (wds r2)) => rcmp_any A2 C L2 c2 m d (wds r2) b W.heap.size W.heap.size W hL2 (by omega) r1 HM.out (by omega) (HRW.out W hb))
      have K4 := Lib.hid (fun W A2 c2 (hb : Below w.heap.size w W) (r1 : RW W W.heap.size A2 (wds r2)) => show val b ≤ r2 → Calls Try.prog 108 #[.slice A2 L2 c2, .slice C m d] W (ToldN (wds (r2 - val b)) L3 W) from fun hle => by
        have hmL : m ≤ L2 := by
          have h1 := wds_mono hle
          have h2 : b = wds (val b) := by rw [← nrm_wds HB.out.1, HNB.out]
          rw [← h2, HM.out, hL2] at h1
          exact h1
        have := less_own A2 C L2 c2 m d (wds r2) b W hL2 (by omega) r1 HM.out hmL (HRW.out W hb) (by rw [wds_val]; exact hle)
        rw [wds_val] at this
        exact this.mono fun _ _ y => y.toldN (wds_ws _) hL3)
      have HL1 := Lib.hid hL1
      have HR2E := Lib.hid hr2
      have HL2 := Lib.hid hL2
      have HL3 := Lib.hid hL3
      obtain ⟨y, hy⟩ : ∃ y, Q.getD j 0 = y := ⟨_, rfl⟩
      have hcell := fun (W : World) (hb : Row W w.heap.size Q) => hb.cell j (by rw [hQl]; exact hjn)
      have hfz := fun (W : World) (hb : Row W w.heap.size Q) => hb.frozen j
      rw [hy] at hup hcell
      have hyl := HT.out.ws.getD j
      rw [hy] at hyl
      have HW := Lib.hid (show bits BinOp.or IntKind.u32 (y : Int) (2 ^ s % 4294967296) = ((y ||| 2 ^ s : Nat) : Int) from or_one y s hyl hs)
      have HCELL := Lib.hid hcell
      have HFZ := Lib.hid hfz
      have HUP := Lib.hid hup
      have HDOWN := Lib.hid hdown
      have HCA := Lib.hid (fun (W : World) (hb : Below w.heap.size w W) => (hb.cell (p := ⟨ab, ao + j, none⟩) hab).trans hcl)
      have e3 : (I : Int) / 32 = (j : Int) := by omega
      have e4 : (I : Int) % 32 = (s : Int) := by omega
      have hj1 : (j : Int) < (n : Int) := by omega
      have hs0 : (0 : Int) ≤ (s : Int) := by omega
      have hI0 : (0 : Int) ≤ (I : Int) := by omega
      have hI2 : (I : Int) ≤ 32768 := by omega
      have hI3 : I ≤ 32 * n := by omega
      have HS32 := Lib.hid hs
      have HJS := Lib.hid hjs
      have HBT := Lib.hid hb2
      have HRLT := Lib.hid HR.out.lt
      clear hk h0 hjs hjn hja hrv l0 l1 l2 hL0 hc0 hr0 hL1 hr2 hL2 hL3 hca hxl hx hbt hcell hfz hup hdown hQl hcl hab hy hyl
      cases hbit : decide (bt = 1)
      · have hbe : bt = 0 := by have := of_decide_eq_false hbit; have := HBT.out; omega
        have hT : (bits BinOp.and IntKind.u32 ((x : Int) / 2 ^ s) 1 == 1) = false := by rw [hba, hbe]; rfl
        obtain rfl : 2 * r = r2 := by rw [← HR2E.out, hbe, Nat.add_zero]
        obtain rfl : L1 = L2 := by rw [← HL1.out, ← HL2.out]
        clear hba hbe hbit hs hb2 K2
        go_wp2_with fail
        refine K1.out.mono ?_
        rintro e w3 ⟨A3, c3, rfl, ⟨hc3, r3⟩, b1⟩
        have B3 := below_le hbw b1
        have hcx := HCA.out w3 B3
        have R3 := HR.out.below HRLT.out b1
        have D3 := K3.out w3 A3 c3 B3 r3
        have D4 := Lib.hid (K4.out w3 A3 c3 B3 r3)
        clear K1 K3 K4 b1
        by_cases hle : val b ≤ (2 * r)
        · have ho : (0 : Int) ≤ ord (wds (2 * r)) b := by
            rcases Nat.lt_or_ge (val b) (2 * r) with h1 | h1
            · rw [ord_gt (by rw [wds_val]; exact h1)]; omega
            · rw [ord_eq (by rw [wds_val]; omega)]; omega
          obtain ⟨o, hoe⟩ : ∃ o, ord (wds (2 * r)) b = o := ⟨_, rfl⟩
          rw [hoe] at ho D3
          have D5 := D4.out hle
          obtain ⟨u1, u2⟩ := HUP.out hle
          have HU2 := Lib.hid u2
          clear hle hoe u1 u2 D4 r3
          go_wp2_with fail
          refine D3.mono ?_
          rintro e w' ⟨rfl, rfl⟩
          go_wp2_with fail
          refine D5.mono ?_
          rintro e w5 ⟨A5, c5, rfl, ⟨hc5, r5, q5⟩, b5⟩
          have B5 := below_le B3 b5
          have R5 := R3.below R3.lt b5
          have hcell := HCELL.out w5 R5
          have hfz := HFZ.out w5 R5
          have HR5 := Lib.hid (R5.set j (y ||| 2 ^ s))
          have HS5 := Lib.hid (r5.other (g := w.heap.size) (j := j) (fun ad h => Nat.lt_of_lt_of_le R3.lt (q5 ad h)) (.int .u32 ((y ||| 2 ^ s : Nat) : Int)))
          have HC5 := Lib.hid hc5
          have HB5 := Lib.hid (B5.setCell (p := ⟨w.heap.size, j, none⟩) (Nat.le_refl _) (.int .u32 ((y ||| 2 ^ s : Nat) : Int)))
          clear r5 q5 b5 R5 B5 hc5 D3 D5 B3 R3
          go_wp2
          rw [HW.out]
          refine ⟨⟨I, _, (2 * r) - val b, rfl, by omega, Lib.hid ⟨A5, c5, by rw [HL3.out], by rw [HL3.out]; exact HC5.out, ?_⟩, HR5, by rw [HJS.out]; exact HU2, HB5.out⟩, ?_⟩
          · have := HS5.out
            rw [show (w5.setCell ⟨w.heap.size, j, none⟩ (.int .u32 ((y ||| 2 ^ s : Nat) : Int))).heap.size = w5.heap.size by simp [World.setCell]]
            exact this
          · simp [intOf]
        · have ho : ¬ (0 : Int) ≤ ord (wds (2 * r)) b := by rw [ordl_lt (by rw [wds_val]; omega)]; omega
          obtain ⟨o, hoe⟩ : ∃ o, ord (wds (2 * r)) b = o := ⟨_, rfl⟩
          rw [hoe] at ho D3
          have HD2 := Lib.hid (HDOWN.out (by omega))
          have HS3 := Lib.hid r3
          have HC3 := Lib.hid hc3
          clear hle hoe D4 r3 hc3
          go_wp2_with fail
          refine D3.mono ?_
          rintro e w' ⟨rfl, rfl⟩
          go_wp2
          go_roundw
          case rel => exact ⟨I, Q, (2 * r), by go_num, by omega, Lib.hid ⟨A3, c3, by rw [HL2.out], by rw [HL2.out]; exact HC3.out, HS3.out⟩, Lib.hid R3, by rw [HJS.out]; exact HD2, B3⟩
          case measure => simp [intOf]
      · have hbe : bt = 1 := of_decide_eq_true hbit
        have hT : (bits BinOp.and IntKind.u32 ((x : Int) / 2 ^ s) 1 == 1) = true := by rw [hba, hbe]; rfl
        have K2b := Lib.hid (fun W A2 c2 r1 => K2.out W A2 c2 r1 hbe)
        clear hba hbe hbit hs hb2 K2
        go_wp2_with fail
        refine K1.out.mono ?_
        rintro e w1 ⟨A1, c1, rfl, ⟨hc1, r1⟩, b1⟩
        have B1 := below_le hbw b1
        have hcx := HCA.out w1 B1
        have D2 := K2b.out w1 A1 c1 r1
        have R1 := HR.out.below HRLT.out b1
        have B2 : Below w.heap.size w (w1.alloc (.cells #[.int .u32 1] 69)) := B1.alloc B1.size _
        have R2 : Row (w1.alloc (.cells #[.int .u32 1] 69)) w.heap.size Q := R1.below R1.lt ((Below.refl _ _).alloc (Nat.le_refl _) _)
        have HB2 := Lib.hid B2
        have HR2 := Lib.hid R2
        clear r1 b1 B2 R2 R1 K1 K2b hc1
        go_wp2_with fail
        refine D2.mono ?_
        rintro e w3 ⟨A3, c3, rfl, ⟨hc3, r3⟩, b3⟩
        have B3 := below_le HB2.out b3
        have R3 := HR2.out.below HR2.out.lt b3
        have D3 := K3.out w3 A3 c3 B3 r3
        have D4 := Lib.hid (K4.out w3 A3 c3 B3 r3)
        clear K3 K4 b3
        by_cases hle : val b ≤ r2
        · have ho : (0 : Int) ≤ ord (wds r2) b := by
            rcases Nat.lt_or_ge (val b) r2 with h1 | h1
            · rw [ord_gt (by rw [wds_val]; exact h1)]; omega
            · rw [ord_eq (by rw [wds_val]; omega)]; omega
          obtain ⟨o, hoe⟩ : ∃ o, ord (wds r2) b = o := ⟨_, rfl⟩
          rw [hoe] at ho D3
          have D5 := D4.out hle
          obtain ⟨u1, u2⟩ := HUP.out hle
          have HU2 := Lib.hid u2
          clear hle hoe u1 u2 D4 r3
          go_wp2_with fail
          refine D3.mono ?_
          rintro e w' ⟨rfl, rfl⟩
          go_wp2_with fail
          refine D5.mono ?_
          rintro e w5 ⟨A5, c5, rfl, ⟨hc5, r5, q5⟩, b5⟩
          have B5 := below_le B3 b5
          have R5 := R3.below R3.lt b5
          have hcell := HCELL.out w5 R5
          have hfz := HFZ.out w5 R5
          have HR5 := Lib.hid (R5.set j (y ||| 2 ^ s))
          have HS5 := Lib.hid (r5.other (g := w.heap.size) (j := j) (fun ad h => Nat.lt_of_lt_of_le R3.lt (q5 ad h)) (.int .u32 ((y ||| 2 ^ s : Nat) : Int)))
          have HC5 := Lib.hid hc5
          have HB5 := Lib.hid (B5.setCell (p := ⟨w.heap.size, j, none⟩) (Nat.le_refl _) (.int .u32 ((y ||| 2 ^ s : Nat) : Int)))
          clear r5 q5 b5 R5 B5 hc5 D3 D5 B3 R3
          go_wp2
          rw [HW.out]
          refine ⟨⟨I, _, r2 - val b, rfl, by omega, Lib.hid ⟨A5, c5, by rw [HL3.out], by rw [HL3.out]; exact HC5.out, ?_⟩, HR5, by rw [HJS.out]; exact HU2, HB5.out⟩, ?_⟩
          · have := HS5.out
            rw [show (w5.setCell ⟨w.heap.size, j, none⟩ (.int .u32 ((y ||| 2 ^ s : Nat) : Int))).heap.size = w5.heap.size by simp [World.setCell]]
            exact this
          · simp [intOf]
        · have ho : ¬ (0 : Int) ≤ ord (wds r2) b := by rw [ordl_lt (by rw [wds_val]; omega)]; omega
          obtain ⟨o, hoe⟩ : ∃ o, ord (wds r2) b = o := ⟨_, rfl⟩
          rw [hoe] at ho D3
          have HD2 := Lib.hid (HDOWN.out (by omega))
          have HS3 := Lib.hid r3
          have HC3 := Lib.hid hc3
          clear hle hoe D4 r3 hc3
          go_wp2_with fail
          refine D3.mono ?_
          rintro e w' ⟨rfl, rfl⟩
          go_wp2
          go_roundw
          case rel => exact ⟨I, Q, r2, by go_num, by omega, Lib.hid ⟨A3, c3, by rw [HL2.out], by rw [HL2.out]; exact HC3.out, HS3.out⟩, Lib.hid R3, by rw [HJS.out]; exact HD2, B3⟩
          case measure => simp [intOf]

end Go.Proofs.Ytbinpcoaghpcdaa
