/-
  Plain lemmas on naturals as lists of words of 32 bits, the lowest first. No program in it. Plain lemmas: the order of naturals as lists of words, found from the highest word on. Plain lemmas: the words of a number, and how lists of words count, part by part. Plain lemmas: sums and differences of lists of words, word by word. Plain lemmas: a list of words times and divided by a power of 2 below 2^32, word by word.
-/
import GoSem.Core.Utf8
namespace Go.Proofs.Ytbinpcoaghpcdaa
/-- What a list of words counts. -/
def val : List Nat → Nat
  | [] => 0
  | x :: r => x + 4294967296 * val r
/-- All are words. -/
def Ws (l : List Nat) : Prop := ∀ u ∈ l, u < 4294967296
/-- Without words of 0 at the end. -/
def nrm : List Nat → List Nat
  | [] => []
  | x :: r => if x = 0 ∧ nrm r = [] then [] else x :: nrm r
theorem Ws.nil : Ws [] := fun u h => by simp at h
theorem Ws.cons {x : Nat} {r : List Nat} (hx : x < 4294967296) (h : Ws r) : Ws (x :: r) := fun u hu => by
  rcases List.mem_cons.1 hu with rfl | hu
  · exact hx
  · exact h u hu
theorem Ws.head {x : Nat} {r : List Nat} (h : Ws (x :: r)) : x < 4294967296 := h x (by simp)
theorem Ws.tail {x : Nat} {r : List Nat} (h : Ws (x :: r)) : Ws r := fun u hu => h u (by simp [hu])
theorem Ws.append {l m : List Nat} (h : Ws l) (g : Ws m) : Ws (l ++ m) := fun u hu => by
  rcases List.mem_append.1 hu with hu | hu
  · exact h u hu
  · exact g u hu
theorem Ws.take {l : List Nat} (h : Ws l) (n : Nat) : Ws (l.take n) := fun u hu => h u (List.mem_of_mem_take hu)
theorem Ws.drop {l : List Nat} (h : Ws l) (n : Nat) : Ws (l.drop n) := fun u hu => h u (List.mem_of_mem_drop hu)
theorem Ws.get {l : List Nat} (h : Ws l) {k u : Nat} (e : l[k]? = some u) : u < 4294967296 := h u (List.mem_of_getElem? e)
theorem Ws.getD {l : List Nat} (h : Ws l) (k : Nat) : l.getD k 0 < 4294967296 := by
  rw [List.getD_eq_getElem?_getD]
  cases e : l[k]? with
  | none => simp
  | some u => exact h.get e
theorem nrm_nil : nrm [] = [] := rfl
theorem nrm_zero {r : List Nat} (h : nrm r = []) : nrm (0 :: r) = [] := by simp [nrm, h]
theorem nrm_cons {x : Nat} {r : List Nat} (h : ¬ (x = 0 ∧ nrm r = [])) : nrm (x :: r) = x :: nrm r := by rw [nrm, if_neg h]
theorem nrm_len : ∀ l : List Nat, (nrm l).length ≤ l.length
  | [] => by simp [nrm]
  | x :: r => by
    have := nrm_len r
    by_cases h : x = 0 ∧ nrm r = []
    · simp [nrm, h]
    · rw [nrm_cons h]; simp; exact this
theorem Ws.nrm : ∀ {l : List Nat}, Ws l → Ws (nrm l)
  | [], h => h
  | x :: r, h => by
    by_cases g : x = 0 ∧ Go.Proofs.Ytbinpcoaghpcdaa.nrm r = []
    · rw [Go.Proofs.Ytbinpcoaghpcdaa.nrm, if_pos g]; exact Ws.nil
    · rw [nrm_cons g]; exact Ws.cons h.head (Ws.nrm h.tail)
theorem nrm_take : ∀ l : List Nat, nrm l = l.take (nrm l).length
  | [] => rfl
  | x :: r => by
    by_cases h : x = 0 ∧ nrm r = []
    · simp [nrm, h]
    · rw [nrm_cons h]; simp; exact nrm_take r
theorem val_nrm : ∀ l : List Nat, val (nrm l) = val l
  | [] => rfl
  | x :: r => by
    have := val_nrm r
    by_cases h : x = 0 ∧ nrm r = []
    · rw [h.2] at this
      rw [nrm, if_pos h]
      simp only [val] at this ⊢
      omega
    · rw [nrm_cons h]; simp only [val, this]
theorem nrm_val_zero : ∀ {l : List Nat}, val l = 0 → nrm l = []
  | [], _ => rfl
  | x :: r, h => by
    simp only [val] at h
    have h1 : x = 0 := by omega
    have h2 : val r = 0 := by omega
    rw [h1, nrm_zero (nrm_val_zero h2)]
theorem val_inj : ∀ {l m : List Nat}, Ws l → Ws m → val l = val m → nrm l = nrm m
  | [], m, _, _, h => by rw [nrm_nil, nrm_val_zero (by rw [← h]; rfl)]
  | x :: r, [], _, _, h => by rw [nrm_nil, nrm_val_zero (by rw [h]; rfl)]
  | x :: r, y :: s, hl, hm, h => by
    have hx := hl.head
    have hy := hm.head
    simp only [val] at h
    have h1 : x = y := by omega
    have h2 : val r = val s := by omega
    have := val_inj hl.tail hm.tail h2
    simp only [nrm, h1, this]
theorem nrm_eq_nil {l : List Nat} (h : nrm l = []) : val l = 0 := by rw [← val_nrm, h]; rfl
theorem val_append : ∀ l m : List Nat, val (l ++ m) = val l + 4294967296 ^ l.length * val m
  | [], m => by simp [val]
  | x :: r, m => by
    rw [List.cons_append, val, val_append r m, val, List.length_cons, Nat.pow_succ, Nat.mul_add, Nat.mul_comm (4294967296 ^ r.length) 4294967296, Nat.mul_assoc]
    omega
theorem val_zeros (n : Nat) : val (List.replicate n 0) = 0 := by
  induction n with
  | zero => rfl
  | succ n ih => rw [List.replicate_succ, val, ih]
theorem val_lt : ∀ {l : List Nat}, Ws l → val l < 4294967296 ^ l.length
  | [], _ => by simp [val]
  | x :: r, h => by
    have h1 := h.head
    have h2 := val_lt h.tail
    rw [val, List.length_cons, Nat.pow_succ]
    have : 4294967296 * (val r + 1) ≤ 4294967296 ^ r.length * 4294967296 := by rw [Nat.mul_comm]; exact Nat.mul_le_mul_right _ h2
    omega
/-- How a loop from the end on finds the end. -/
theorem nrm_of : ∀ (l : List Nat) (n : Nat), n ≤ l.length → (∀ k, n ≤ k → k < l.length → l.getD k 0 = 0) → (n = 0 ∨ l.getD (n - 1) 0 ≠ 0) → nrm l = l.take n
  | [], n, hn, _, _ => by simp [nrm]
  | x :: r, 0, _, h0, _ => by
    have hx := h0 0 (by omega) (by simp)
    have hr := nrm_of r 0 (by omega) (fun k hk hl => by have := h0 (k + 1) (by omega) (by simp; omega); simpa using this) (.inl rfl)
    simp only [List.take_zero] at hr ⊢
    have hx' : x = 0 := by simpa using hx
    rw [hx', nrm_zero hr]
  | x :: r, n + 1, hn, h0, hl => by
    have hn' : n ≤ r.length := by simpa using hn
    rcases hl with hl | hl
    · omega
    · cases n with
      | zero =>
        have hx : x ≠ 0 := by simpa using hl
        have hr := nrm_of r 0 (by omega) (fun k hk hl => by have := h0 (k + 1) (by omega) (by simp; omega); simpa using this) (.inl rfl)
        rw [nrm_cons (fun h => hx h.1), hr]
        rfl
      | succ n =>
        have hr := nrm_of r (n + 1) hn' (fun k hk hl => by have := h0 (k + 1) (by omega) (by simp; omega); simpa using this) (.inr (by simpa using hl))
        have hne : nrm r ≠ [] := by
          rw [hr]
          intro e
          have := congrArg List.length e
          rw [List.length_take, List.length_nil] at this
          have := hn'
          omega
        rw [nrm_cons (fun h => hne h.2), hr]
        rfl
theorem val_ge {l : List Nat} (h : nrm l ≠ []) : 4294967296 ^ ((nrm l).length - 1) ≤ val l := by
  induction l with
  | nil => simp [nrm] at h
  | cons x r ih =>
    by_cases g : x = 0 ∧ nrm r = []
    · rw [nrm, if_pos g] at h; exact absurd rfl h
    · rw [nrm_cons g, val]
      by_cases e : nrm r = []
      · rw [e]; simp
        have : x ≠ 0 := fun hx => g ⟨hx, e⟩
        omega
      · have := ih e
        have hp : 0 < (nrm r).length := List.length_pos_iff.2 e
        obtain ⟨k, hk⟩ : ∃ k, (nrm r).length = k + 1 := ⟨(nrm r).length - 1, by omega⟩
        rw [hk] at this
        simp only [List.length_cons, hk, Nat.add_sub_cancel] at this ⊢
        rw [Nat.pow_succ, Nat.mul_comm]
        have h3 : 4294967296 * 4294967296 ^ k ≤ 4294967296 * val r := Nat.mul_le_mul_left _ this
        omega
end Go.Proofs.Ytbinpcoaghpcdaa
namespace Go.Proofs.Ytbinpcoaghpcdaa
theorem val_ht (l : List Nat) : val l = l.getD 0 0 + 4294967296 * val l.tail := by
  cases l with
  | nil => simp [val]
  | cons x r => simp [val]
theorem getD_tail (l : List Nat) (j : Nat) : l.tail.getD j 0 = l.getD (j + 1) 0 := by
  cases l with
  | nil => simp
  | cons x r => simp
theorem Ws.tl {l : List Nat} (h : Ws l) : Ws l.tail := fun u hu => h u (List.mem_of_mem_tail hu)
theorem val_ext : ∀ (n : Nat) (l m : List Nat), l.length ≤ n → m.length ≤ n → (∀ j, l.getD j 0 = m.getD j 0) → val l = val m
  | 0, l, m, hl, hm, _ => by
    rw [List.eq_nil_of_length_eq_zero (by omega : l.length = 0), List.eq_nil_of_length_eq_zero (by omega : m.length = 0)]
  | n + 1, l, m, hl, hm, h => by
    rw [val_ht l, val_ht m, h 0, val_ext n l.tail m.tail (by rw [List.length_tail]; omega) (by rw [List.length_tail]; omega) (fun j => by rw [getD_tail, getD_tail, h])]
theorem val_eq {l m : List Nat} (h : ∀ j, l.getD j 0 = m.getD j 0) : val l = val m := val_ext (l.length + m.length) l m (by omega) (by omega) h
theorem cmp_at : ∀ (i : Nat) (l m : List Nat), Ws l → Ws m → (∀ j, i < j → l.getD j 0 = m.getD j 0) → l.getD i 0 < m.getD i 0 → val l < val m
  | 0, l, m, _, _, h, hlt => by
    rw [val_ht l, val_ht m, val_eq (l := l.tail) (m := m.tail) (fun j => by rw [getD_tail, getD_tail, h (j + 1) (by omega)])]
    omega
  | i + 1, l, m, hl, hm, h, hlt => by
    have ih := cmp_at i l.tail m.tail hl.tl hm.tl (fun j hj => by rw [getD_tail, getD_tail, h (j + 1) (by omega)]) (by rw [getD_tail, getD_tail]; exact hlt)
    have h1 : l.getD 0 0 < 4294967296 := by
      rw [List.getD_eq_getElem?_getD]
      cases e : l[0]? with
      | none => simp
      | some u => exact hl.get e
    rw [val_ht l, val_ht m]
    omega
end Go.Proofs.Ytbinpcoaghpcdaa
namespace Go.Proofs.Ytbinpcoaghpcdaa
/-- The words of a number, f at most. -/
def wdsF : Nat → Nat → List Nat
  | 0, _ => []
  | f + 1, n => if n = 0 then [] else n % 4294967296 :: wdsF f (n / 4294967296)
/-- The natural of a number. -/
def wds (n : Nat) : List Nat := wdsF n n
theorem wdsF_ws : ∀ f n : Nat, Ws (wdsF f n)
  | 0, _ => Ws.nil
  | f + 1, n => by
    unfold wdsF
    split
    · exact Ws.nil
    · exact Ws.cons (by omega) (wdsF_ws f _)
theorem wds_ws (n : Nat) : Ws (wds n) := wdsF_ws n n
theorem wdsF_val : ∀ f n : Nat, n ≤ f → val (wdsF f n) = n
  | 0, n, h => by simp [wdsF, val]; omega
  | f + 1, n, h => by
    unfold wdsF
    split
    · next h0 => rw [h0]; rfl
    · next h0 => rw [val, wdsF_val f (n / 4294967296) (by omega)]; omega
theorem wds_val (n : Nat) : val (wds n) = n := wdsF_val n n (Nat.le_refl _)
theorem wdsF_nrm : ∀ f n : Nat, n ≤ f → nrm (wdsF f n) = wdsF f n
  | 0, _, _ => rfl
  | f + 1, n, h => by
    unfold wdsF
    split
    · rfl
    · next h0 =>
      rw [nrm_cons, wdsF_nrm f (n / 4294967296) (by omega)]
      rintro ⟨h1, h2⟩
      have h3 := nrm_eq_nil h2
      rw [wdsF_val f (n / 4294967296) (by omega)] at h3
      omega
theorem wds_nrm (n : Nat) : nrm (wds n) = wds n := wdsF_nrm n n (Nat.le_refl _)
theorem nrm_wds {l : List Nat} (h : Ws l) : nrm l = wds (val l) := by
  rw [← wds_nrm (val l)]
  exact val_inj h (wds_ws _) (wds_val _).symm
theorem wds_len_lt {n k : Nat} (h : n < 4294967296 ^ k) : (wds n).length ≤ k := by
  rcases Nat.lt_or_ge k (wds n).length with h1 | h1
  · have h2 := val_ge (l := wds n) (by rw [wds_nrm]; intro e; rw [e] at h1; simp at h1)
    rw [wds_nrm, wds_val] at h2
    have h3 : 4294967296 ^ k ≤ 4294967296 ^ ((wds n).length - 1) := Nat.pow_le_pow_right (by omega) (by omega)
    omega
  · exact h1
theorem wds_lt (n : Nat) : n < 4294967296 ^ (wds n).length := by
  have := val_lt (wds_ws n)
  rw [wds_val] at this
  exact this
/-! ### part by part -/
theorem val_snoc (l : List Nat) (y : Nat) : val (l ++ [y]) = val l + 4294967296 ^ l.length * y := by rw [val_append]; simp [val]
theorem val_take_succ (l : List Nat) (k : Nat) (h : k < l.length) : val (l.take (k + 1)) = val (l.take k) + 4294967296 ^ k * l.getD k 0 := by
  have e : l[k] = l.getD k 0 := by rw [List.getD_eq_getElem?_getD, List.getElem?_eq_getElem h]; rfl
  have hk : (l.take k).length = k := by rw [List.length_take]; omega
  rw [List.take_succ_eq_append_getElem h, val_snoc, hk, e]
theorem val_part (l : List Nat) (i k : Nat) (h : i ≤ l.length) : val (l.take (i + k)) = val (l.take i) + 4294967296 ^ i * val ((l.drop i).take k) := by
  have hi : (l.take i).length = i := by rw [List.length_take]; omega
  rw [List.take_add, val_append, hi]
theorem getD_drop (l : List Nat) (i j : Nat) : (l.drop i).getD j 0 = l.getD (i + j) 0 := by
  rw [List.getD_eq_getElem?_getD, List.getD_eq_getElem?_getD, List.getElem?_drop]
theorem getD_take {l : List Nat} {k j : Nat} (h : j < k) : (l.take k).getD j 0 = l.getD j 0 := by
  rw [List.getD_eq_getElem?_getD, List.getD_eq_getElem?_getD, List.getElem?_take, if_pos h]
theorem getD_set_eq {l : List Nat} {k y : Nat} (h : k < l.length) : (l.set k y).getD k 0 = y := by
  rw [List.getD_eq_getElem?_getD, List.getElem?_set_self h]; rfl
theorem getD_set_ne {l : List Nat} {k j y : Nat} (h : k ≠ j) : (l.set k y).getD j 0 = l.getD j 0 := by
  rw [List.getD_eq_getElem?_getD, List.getD_eq_getElem?_getD, List.getElem?_set_ne h]
theorem Ws.set {l : List Nat} (h : Ws l) {k y : Nat} (hy : y < 4294967296) : Ws (l.set k y) := fun u hu => by
  rcases List.mem_or_eq_of_mem_set hu with h1 | h1
  · exact h u h1
  · rw [h1]; exact hy
theorem take_congr {l m : List Nat} (k : Nat) (hl : k ≤ l.length) (hm : k ≤ m.length) (h : ∀ j, j < k → l.getD j 0 = m.getD j 0) : l.take k = m.take k := by
  apply List.ext_getElem?
  intro j
  rw [List.getElem?_take, List.getElem?_take]
  split
  · next hj =>
    have := h j hj
    rw [List.getElem?_eq_getElem (by omega), List.getElem?_eq_getElem (by omega)]
    rw [List.getD_eq_getElem?_getD, List.getD_eq_getElem?_getD, List.getElem?_eq_getElem (by omega), List.getElem?_eq_getElem (by omega)] at this
    exact congrArg some this
  · rfl
theorem part_congr {l m : List Nat} (i k : Nat) (hl : i + k ≤ l.length) (hm : i + k ≤ m.length) (h : ∀ j, i ≤ j → j < i + k → l.getD j 0 = m.getD j 0) : (l.drop i).take k = (m.drop i).take k :=
  take_congr k (by rw [List.length_drop]; omega) (by rw [List.length_drop]; omega) (fun j hj => by rw [getD_drop, getD_drop]; exact h _ (by omega) (by omega))
theorem val_part_succ (l : List Nat) (i k : Nat) (h : i + k < l.length) : val ((l.drop i).take (k + 1)) = val ((l.drop i).take k) + 4294967296 ^ k * l.getD (i + k) 0 := by
  rw [val_take_succ (l.drop i) k (by rw [List.length_drop]; omega), getD_drop]
theorem val_take_zeros (l : List Nat) (k : Nat) (hz : ∀ j, k ≤ j → l.getD j 0 = 0) : val l = val (l.take k) := by
  refine val_eq (fun j => ?_)
  by_cases h : j < k
  · rw [getD_take h]
  · rw [hz j (by omega)]
    rw [List.getD_eq_getElem?_getD, List.getElem?_eq_none (by rw [List.length_take]; omega)]; rfl
/-- One step of a sum of products: t is what is at a place; its word stays, the rest is carried. -/
theorem step_words (P t v w : Nat) (h : v + P * t = w) : (v + P * (t % 4294967296)) + (P * 4294967296) * (t / 4294967296) = w := by
  have := Nat.mod_add_div t 4294967296
  grind
end Go.Proofs.Ytbinpcoaghpcdaa
namespace Go.Proofs.Ytbinpcoaghpcdaa
theorem val_take_next (l : List Nat) (k : Nat) : val (l.take (k + 1)) = val (l.take k) + 4294967296 ^ k * l.getD k 0 := by
  rcases Nat.lt_or_ge k l.length with h | h
  · exact val_take_succ l k h
  · rw [List.take_of_length_le (by omega), List.take_of_length_le h, List.getD_eq_getElem?_getD, List.getElem?_eq_none h]; simp
theorem val_take_end {l : List Nat} {k : Nat} (h : l.length ≤ k) : val (l.take k) = val l := by rw [List.take_of_length_le h]
/-- What stands in the first k words of a sum, c to be carried. -/
structure SumT (a b : List Nat) (k : Nat) (S : List Nat) (c : Nat) : Prop where
  ws : Ws S
  sum : val (S.take k) + 4294967296 ^ k * c = val (a.take k) + val (b.take k)
  low : c ≤ 1
theorem SumT.start (a b S : List Nat) (h : Ws S) : SumT a b 0 S 0 := ⟨h, by simp [val], by omega⟩
def sumC (a b : List Nat) (k c : Nat) : Nat := a.getD k 0 + b.getD k 0 + c
theorem sumC_lt {a b : List Nat} {k c : Nat} (ha : Ws a) (hb : Ws b) (hc : c ≤ 1) : sumC a b k c < 8589934592 := by
  have h1 := ha.getD k
  have h2 := hb.getD k
  unfold sumC
  omega
/-- A list whose word k is the next word of the sum, and whose first k words are as they were. -/
theorem SumT.next {a b : List Nat} {k : Nat} {S T : List Nat} {c : Nat} (h : SumT a b k S c) (ha : Ws a) (hb : Ws b) (hT : Ws T) (e1 : T.take k = S.take k) (e2 : T.getD k 0 = sumC a b k c % 4294967296) :
    SumT a b (k + 1) T (sumC a b k c / 4294967296) := by
  have hlt := sumC_lt (k := k) ha hb h.low
  refine ⟨hT, ?_, by omega⟩
  have hs := h.sum
  rw [val_take_next T k, e1, e2, val_take_next a k, val_take_next b k]
  have e := step_words (4294967296 ^ k) (sumC a b k c) (val (S.take k)) (val (a.take k) + 4294967296 ^ k * a.getD k 0 + (val (b.take k) + 4294967296 ^ k * b.getD k 0)) (by unfold sumC; grind)
  rw [Nat.pow_succ]
  exact e
theorem carry_none {P Q va vb vS c : Nat} (h1 : va < P) (h2 : vb < P) (h3 : 2 * P ≤ Q) (hs : vS + Q * c = va + vb) : vS = va + vb := by
  rcases Nat.eq_zero_or_pos c with h0 | h0
  · rw [h0, Nat.mul_zero] at hs; omega
  · have h6 : Q * 1 ≤ Q * c := Nat.mul_le_mul_left _ h0
    omega
theorem pow_twice (n : Nat) : 2 * 4294967296 ^ n ≤ 4294967296 ^ (n + 1) := by
  rw [Nat.pow_succ, Nat.mul_comm]
  exact Nat.mul_le_mul_left _ (by omega)
theorem SumT.whole {a b : List Nat} {n : Nat} {S : List Nat} {c : Nat} (h : SumT a b (n + 1) S c) (ha : Ws a) (hb : Ws b) (hn : a.length ≤ n) (hm : b.length ≤ n) (hS : S.length = n + 1) : val S = val a + val b := by
  have hs := h.sum
  rw [val_take_end (Nat.le_of_eq hS), val_take_end (Nat.le_succ_of_le hn), val_take_end (Nat.le_succ_of_le hm)] at hs
  exact carry_none (Nat.lt_of_lt_of_le (val_lt ha) (Nat.pow_le_pow_right (by omega) hn)) (Nat.lt_of_lt_of_le (val_lt hb) (Nat.pow_le_pow_right (by omega) hm)) (pow_twice n) hs
theorem SumT.end_ {a b : List Nat} {k : Nat} {S : List Nat} {c : Nat} (h : SumT a b k S c) (hn : a.length ≤ k) (hm : b.length ≤ k) (hS : S.length = k) : Ws (S ++ [c]) ∧ val (S ++ [c]) = val a + val b := by
  have hs := h.sum
  rw [val_take_end (by omega), val_take_end hn, val_take_end hm] at hs
  refine ⟨h.ws.append (Ws.cons (by have := h.low; omega) Ws.nil), ?_⟩
  rw [val_snoc, hS]
  exact hs
theorem borrow_none {P va vb vS c : Nat} (h1 : vS < P) (h2 : vb ≤ va) (hs : vS + vb = va + P * c) : vS = va - vb := by
  rcases Nat.eq_zero_or_pos c with h0 | h0
  · rw [h0, Nat.mul_zero] at hs; omega
  · have h6 : P * 1 ≤ P * c := Nat.mul_le_mul_left _ h0
    omega
/-- What stands in the first k words of a difference, c to be taken. -/
structure SubT (a b : List Nat) (k : Nat) (S : List Nat) (c : Nat) : Prop where
  ws : Ws S
  sum : val (S.take k) + val (b.take k) = val (a.take k) + 4294967296 ^ k * c
  low : c ≤ 1
theorem SubT.start (a b S : List Nat) (h : Ws S) : SubT a b 0 S 0 := ⟨h, by simp [val], by omega⟩
/-- The next word of a difference, and what is to be taken then. -/
def subW (a b : List Nat) (k c : Nat) : Nat := (a.getD k 0 + 4294967296 * 2 - b.getD k 0 - c) % 4294967296
def subC (a b : List Nat) (k c : Nat) : Nat := if a.getD k 0 < b.getD k 0 + c then 1 else 0
theorem SubT.next {a b : List Nat} {k : Nat} {S T : List Nat} {c : Nat} (h : SubT a b k S c) (ha : Ws a) (hb : Ws b) (hT : Ws T) (e1 : T.take k = S.take k) (e2 : T.getD k 0 = subW a b k c) :
    SubT a b (k + 1) T (subC a b k c) := by
  have h1 := ha.getD k
  have h2 := hb.getD k
  have h3 := h.low
  have hs := h.sum
  refine ⟨hT, ?_, by unfold subC; split <;> omega⟩
  rw [val_take_next T k, e1, e2, val_take_next a k, val_take_next b k]
  have key : subW a b k c + b.getD k 0 + c = a.getD k 0 + 4294967296 * subC a b k c := by
    unfold subW subC
    split <;> omega
  rw [Nat.pow_succ]
  have : 4294967296 ^ k * (subW a b k c + b.getD k 0 + c) = 4294967296 ^ k * (a.getD k 0 + 4294967296 * subC a b k c) := by rw [key]
  grind
theorem SubT.whole {a b : List Nat} {n : Nat} {S : List Nat} {c : Nat} (h : SubT a b n S c) (hn : a.length ≤ n) (hm : b.length ≤ n) (hS : S.length = n) (hle : val b ≤ val a) : val S = val a - val b := by
  have hs := h.sum
  rw [val_take_end (by omega), val_take_end hn, val_take_end hm] at hs
  have h1 := val_lt h.ws
  rw [hS] at h1
  exact borrow_none h1 hle hs
end Go.Proofs.Ytbinpcoaghpcdaa
namespace Go.Proofs.Ytbinpcoaghpcdaa
theorem pow_parts {s : Nat} (hs : s ≤ 32) : 2 ^ s * 2 ^ (32 - s) = 4294967296 := by
  rw [← Nat.pow_add, show s + (32 - s) = 32 by omega]
/-- What a word hands to the next one, when it is times 2^s. -/
def carL (a : List Nat) (s k : Nat) : Nat := if k = 0 then 0 else a.getD (k - 1) 0 / 2 ^ (32 - s)
/-- The word at a place of a times 2^s. -/
def shlW (a : List Nat) (s k : Nat) : Nat := a.getD k 0 * 2 ^ s % 4294967296 + carL a s k
theorem mul_div_low (x s : Nat) (hs : s ≤ 32) : x * 2 ^ s / 4294967296 = x / 2 ^ (32 - s) := by
  rw [← pow_parts hs, Nat.mul_comm x, Nat.mul_div_mul_left _ _ (Nat.two_pow_pos s)]
theorem mul_mod_low (x s : Nat) (hs : s ≤ 32) : x * 2 ^ s % 4294967296 = 2 ^ s * (x % 2 ^ (32 - s)) := by
  rw [← pow_parts hs, Nat.mul_comm x, Nat.mul_mod_mul_left]
theorem div_lt_low (y s : Nat) (hs : s ≤ 32) (hy : y < 4294967296) : y / 2 ^ (32 - s) < 2 ^ s := by
  rw [Nat.div_lt_iff_lt_mul (Nat.two_pow_pos _), pow_parts hs]; exact hy
theorem sum_low (x y s : Nat) (hs : s ≤ 32) (hy : y < 4294967296) : x * 2 ^ s % 4294967296 + y / 2 ^ (32 - s) < 4294967296 := by
  have h1 := div_lt_low y s hs hy
  have h2 : x % 2 ^ (32 - s) < 2 ^ (32 - s) := Nat.mod_lt _ (Nat.two_pow_pos _)
  rw [mul_mod_low x s hs]
  have h3 : 2 ^ s * (x % 2 ^ (32 - s) + 1) ≤ 2 ^ s * 2 ^ (32 - s) := Nat.mul_le_mul_left _ h2
  rw [pow_parts hs, Nat.mul_add, Nat.mul_one] at h3
  omega
theorem shlW_lt {a : List Nat} (ha : Ws a) (s k : Nat) (hs : s ≤ 32) : shlW a s k < 4294967296 := by
  unfold shlW carL
  split
  · omega
  · exact sum_low _ _ s hs (ha.getD _)
/-- What stands in a part of a row, when k words of a times 2^s were written from o on. -/
structure ShlP (R : List Nat) (o : Nat) (a : List Nat) (s k : Nat) (S : List Nat) : Prop where
  len : S.length = R.length
  ws : Ws S
  far : ∀ j, j < o ∨ o + k ≤ j → S.getD j 0 = R.getD j 0
  sum : val ((S.drop o).take k) + 4294967296 ^ k * carL a s k = 2 ^ s * val (a.take k)
theorem ShlP.start {R : List Nat} (o : Nat) (a : List Nat) (s : Nat) (hR : Ws R) : ShlP R o a s 0 R := ⟨rfl, hR, fun _ _ => rfl, by simp [val, carL]⟩
theorem ShlP.next {R : List Nat} {o : Nat} {a : List Nat} {s k : Nat} {S : List Nat} (h : ShlP R o a s k S) (ha : Ws a) (hs : s ≤ 32) (ho : o + k < R.length) :
    ShlP R o a s (k + 1) (S.set (o + k) (shlW a s k)) := by
  obtain ⟨h1, h2, h3, h4⟩ := h
  refine ⟨by rw [List.length_set]; exact h1, h2.set (shlW_lt ha s k hs), fun j hj => by rw [getD_set_ne (by omega), h3 j (by omega)], ?_⟩
  rw [val_part_succ _ o k (by rw [List.length_set]; omega), val_take_next a k, getD_set_eq (by omega)]
  rw [part_congr (l := S.set (o + k) (shlW a s k)) (m := S) o k (by rw [List.length_set]; omega) (by omega) (fun j _ hj => getD_set_ne (by omega))]
  have e1 : carL a s (k + 1) = a.getD k 0 * 2 ^ s / 4294967296 := by
    unfold carL; rw [if_neg (by omega), Nat.add_sub_cancel, mul_div_low _ s hs]
  have e := step_words (4294967296 ^ k) (a.getD k 0 * 2 ^ s) (val ((S.drop o).take k) + 4294967296 ^ k * carL a s k) (2 ^ s * (val (a.take k) + 4294967296 ^ k * a.getD k 0)) (by rw [h4]; grind)
  rw [e1, Nat.pow_succ]
  unfold shlW
  grind
theorem ShlP.whole {R : List Nat} {o : Nat} {a : List Nat} {s n : Nat} {S : List Nat} (h : ShlP R o a s n S) (hn : a.length < n) : val ((S.drop o).take n) = 2 ^ s * val a := by
  have h4 := h.sum
  have e : carL a s n = 0 := by
    unfold carL
    split
    · rfl
    · rw [List.getD_eq_getElem?_getD, List.getElem?_eq_none (by omega)]; simp
  rw [e, Nat.mul_zero, Nat.add_zero, val_take_end (l := a) (by omega)] at h4
  exact h4
/-- The word at a place of a divided by 2^s. -/
def shrW (a : List Nat) (s k : Nat) : Nat := a.getD (k + 1) 0 * 2 ^ (32 - s) % 4294967296 + a.getD k 0 / 2 ^ s
theorem shrW_lt {a : List Nat} (ha : Ws a) (s k : Nat) (hs : s ≤ 32) : shrW a s k < 4294967296 := by
  unfold shrW
  have := sum_low (a.getD (k + 1) 0) (a.getD k 0) (32 - s) (by omega) (ha.getD k)
  rw [show 32 - (32 - s) = s by omega] at this
  exact this
structure ShrP (R : List Nat) (o : Nat) (a : List Nat) (s k : Nat) (S : List Nat) : Prop where
  len : S.length = R.length
  ws : Ws S
  far : ∀ j, j < o ∨ o + k ≤ j → S.getD j 0 = R.getD j 0
  sum : 2 ^ s * val ((S.drop o).take k) + a.getD 0 0 % 2 ^ s = val (a.take k) + 4294967296 ^ k * (a.getD k 0 % 2 ^ s)
theorem ShrP.start {R : List Nat} (o : Nat) (a : List Nat) (s : Nat) (hR : Ws R) : ShrP R o a s 0 R := ⟨rfl, hR, fun _ _ => rfl, by simp [val]⟩
theorem shrW_times (a : List Nat) (s k : Nat) (hs : s ≤ 32) : 2 ^ s * shrW a s k + a.getD k 0 % 2 ^ s = a.getD k 0 + 4294967296 * (a.getD (k + 1) 0 % 2 ^ s) := by
  have h1 := Nat.div_add_mod (a.getD k 0) (2 ^ s)
  have h2 := mul_mod_low (a.getD (k + 1) 0) (32 - s) (by omega)
  rw [show 32 - (32 - s) = s by omega] at h2
  have h3 := pow_parts hs
  unfold shrW
  rw [h2, ← h3]
  generalize 2 ^ s = P at *
  generalize 2 ^ (32 - s) = Q at *
  generalize a.getD (k + 1) 0 % P = z at *
  have e : P * (Q * z + a.getD k 0 / P) = P * Q * z + P * (a.getD k 0 / P) := by rw [Nat.mul_add, Nat.mul_assoc]
  omega
theorem ShrP.next {R : List Nat} {o : Nat} {a : List Nat} {s k : Nat} {S : List Nat} (h : ShrP R o a s k S) (ha : Ws a) (hs : s ≤ 32) (ho : o + k < R.length) :
    ShrP R o a s (k + 1) (S.set (o + k) (shrW a s k)) := by
  obtain ⟨h1, h2, h3, h4⟩ := h
  refine ⟨by rw [List.length_set]; exact h1, h2.set (shrW_lt ha s k hs), fun j hj => by rw [getD_set_ne (by omega), h3 j (by omega)], ?_⟩
  rw [val_part_succ _ o k (by rw [List.length_set]; omega), val_take_next a k, getD_set_eq (by omega)]
  rw [part_congr (l := S.set (o + k) (shrW a s k)) (m := S) o k (by rw [List.length_set]; omega) (by omega) (fun j _ hj => getD_set_ne (by omega))]
  have e := shrW_times a s k hs
  rw [Nat.pow_succ]
  generalize 4294967296 ^ k = K at *
  generalize shrW a s k = W at *
  have e2 : K * (2 ^ s * W + a.getD k 0 % 2 ^ s) = K * (a.getD k 0 + 4294967296 * (a.getD (k + 1) 0 % 2 ^ s)) := by rw [e]
  grind
theorem ShrP.whole {R : List Nat} {o : Nat} {a : List Nat} {s n : Nat} {S : List Nat} (h : ShrP R o a s n S) (hn : a.length ≤ n) : val ((S.drop o).take n) = val a / 2 ^ s := by
  have h4 := h.sum
  have e : a.getD n 0 = 0 := by rw [List.getD_eq_getElem?_getD, List.getElem?_eq_none hn]; rfl
  rw [e, Nat.zero_mod, Nat.mul_zero, Nat.add_zero, val_take_end (l := a) hn] at h4
  rw [← h4, Nat.add_comm, Nat.add_mul_div_left _ _ (Nat.two_pow_pos s), Nat.div_eq_of_lt (Nat.mod_lt _ (Nat.two_pow_pos s)), Nat.zero_add]

end Go.Proofs.Ytbinpcoaghpcdaa
