/-
  Plain lemmas: the words of a number, and how lists of words count, part by part.
-/
import Derived.Test.YtclggnaljijjoaaCmpPure
namespace Go.Proofs.Ytclggnaljijjoaa
/-- The words of a number, f at most. -/
def wdsF : Nat → Nat → List Nat
  | 0, _ => []
  | f + 1, n => if n = 0 then [] else n % 4294967296 :: wdsF f (n / 4294967296)
/-- The natural of a number. -/
def wds (n : Nat) : List Nat := wdsF n n
theorem wdsF_ws : ∀ f n : Nat, Ws (wdsF f n)
  | 0, _ => Ws.nil
  | f + 1, n => by
    unfold wdsF
    split
    · exact Ws.nil
    · exact Ws.cons (by omega) (wdsF_ws f _)
theorem wds_ws (n : Nat) : Ws (wds n) := wdsF_ws n n
theorem wdsF_val : ∀ f n : Nat, n ≤ f → val (wdsF f n) = n
  | 0, n, h => by simp [wdsF, val]; omega
  | f + 1, n, h => by
    unfold wdsF
    split
    · next h0 => rw [h0]; rfl
    · next h0 => rw [val, wdsF_val f (n / 4294967296) (by omega)]; omega
theorem wds_val (n : Nat) : val (wds n) = n := wdsF_val n n (Nat.le_refl _)
theorem wdsF_nrm : ∀ f n : Nat, n ≤ f → nrm (wdsF f n) = wdsF f n
  | 0, _, _ => rfl
  | f + 1, n, h => by
    unfold wdsF
    split
    · rfl
    · next h0 =>
      rw [nrm_cons, wdsF_nrm f (n / 4294967296) (by omega)]
      rintro ⟨h1, h2⟩
      have h3 := nrm_eq_nil h2
      rw [wdsF_val f (n / 4294967296) (by omega)] at h3
      omega
theorem wds_nrm (n : Nat) : nrm (wds n) = wds n := wdsF_nrm n n (Nat.le_refl _)
theorem nrm_wds {l : List Nat} (h : Ws l) : nrm l = wds (val l) := by
  rw [← wds_nrm (val l)]
  exact val_inj h (wds_ws _) (wds_val _).symm
theorem wds_zero : wds 0 = [] := rfl
theorem wds_len_le {l : List Nat} (h : Ws l) : (wds (val l)).length ≤ l.length := by rw [← nrm_wds h]; exact nrm_len l
theorem wds_len_lt {n k : Nat} (h : n < 4294967296 ^ k) : (wds n).length ≤ k := by
  rcases Nat.lt_or_ge k (wds n).length with h1 | h1
  · have h2 := val_ge (l := wds n) (by rw [wds_nrm]; intro e; rw [e] at h1; simp at h1)
    rw [wds_nrm, wds_val] at h2
    have h3 : 4294967296 ^ k ≤ 4294967296 ^ ((wds n).length - 1) := Nat.pow_le_pow_right (by omega) (by omega)
    omega
  · exact h1
theorem wds_lt (n : Nat) : n < 4294967296 ^ (wds n).length := by
  have := val_lt (wds_ws n)
  rw [wds_val] at this
  exact this
/-! ### part by part -/
theorem val_snoc (l : List Nat) (y : Nat) : val (l ++ [y]) = val l + 4294967296 ^ l.length * y := by rw [val_append]; simp [val]
theorem val_take_succ (l : List Nat) (k : Nat) (h : k < l.length) : val (l.take (k + 1)) = val (l.take k) + 4294967296 ^ k * l.getD k 0 := by
  have e : l[k] = l.getD k 0 := by rw [List.getD_eq_getElem?_getD, List.getElem?_eq_getElem h]; rfl
  have hk : (l.take k).length = k := by rw [List.length_take]; omega
  rw [List.take_succ_eq_append_getElem h, val_snoc, hk, e]
theorem val_part (l : List Nat) (i k : Nat) (h : i ≤ l.length) : val (l.take (i + k)) = val (l.take i) + 4294967296 ^ i * val ((l.drop i).take k) := by
  have hi : (l.take i).length = i := by rw [List.length_take]; omega
  rw [List.take_add, val_append, hi]
theorem getD_drop (l : List Nat) (i j : Nat) : (l.drop i).getD j 0 = l.getD (i + j) 0 := by
  rw [List.getD_eq_getElem?_getD, List.getD_eq_getElem?_getD, List.getElem?_drop]
theorem getD_take {l : List Nat} {k j : Nat} (h : j < k) : (l.take k).getD j 0 = l.getD j 0 := by
  rw [List.getD_eq_getElem?_getD, List.getD_eq_getElem?_getD, List.getElem?_take, if_pos h]
theorem getD_set_eq {l : List Nat} {k y : Nat} (h : k < l.length) : (l.set k y).getD k 0 = y := by
  rw [List.getD_eq_getElem?_getD, List.getElem?_set_self h]; rfl
theorem getD_set_ne {l : List Nat} {k j y : Nat} (h : k ≠ j) : (l.set k y).getD j 0 = l.getD j 0 := by
  rw [List.getD_eq_getElem?_getD, List.getD_eq_getElem?_getD, List.getElem?_set_ne h]
theorem Ws.set {l : List Nat} (h : Ws l) {k y : Nat} (hy : y < 4294967296) : Ws (l.set k y) := fun u hu => by
  rcases List.mem_or_eq_of_mem_set hu with h1 | h1
  · exact h u h1
  · rw [h1]; exact hy
theorem take_congr {l m : List Nat} (k : Nat) (hl : k ≤ l.length) (hm : k ≤ m.length) (h : ∀ j, j < k → l.getD j 0 = m.getD j 0) : l.take k = m.take k := by
  apply List.ext_getElem?
  intro j
  rw [List.getElem?_take, List.getElem?_take]
  split
  · next hj =>
    have := h j hj
    rw [List.getElem?_eq_getElem (by omega), List.getElem?_eq_getElem (by omega)]
    rw [List.getD_eq_getElem?_getD, List.getD_eq_getElem?_getD, List.getElem?_eq_getElem (by omega), List.getElem?_eq_getElem (by omega)] at this
    exact congrArg some this
  · rfl
theorem part_congr {l m : List Nat} (i k : Nat) (hl : i + k ≤ l.length) (hm : i + k ≤ m.length) (h : ∀ j, i ≤ j → j < i + k → l.getD j 0 = m.getD j 0) : (l.drop i).take k = (m.drop i).take k :=
  take_congr k (by rw [List.length_drop]; omega) (by rw [List.length_drop]; omega) (fun j hj => by rw [getD_drop, getD_drop]; exact h _ (by omega) (by omega))
theorem val_part_succ (l : List Nat) (i k : Nat) (h : i + k < l.length) : val ((l.drop i).take (k + 1)) = val ((l.drop i).take k) + 4294967296 ^ k * l.getD (i + k) 0 := by
  rw [val_take_succ (l.drop i) k (by rw [List.length_drop]; omega), getD_drop]
theorem val_all_zero {l : List Nat} (h : ∀ j, l.getD j 0 = 0) : val l = 0 := by
  have := val_eq (l := l) (m := []) (fun j => by rw [h]; simp)
  rw [this]; rfl
theorem val_take_zeros (l : List Nat) (k : Nat) (hz : ∀ j, k ≤ j → l.getD j 0 = 0) : val l = val (l.take k) := by
  refine val_eq (fun j => ?_)
  by_cases h : j < k
  · rw [getD_take h]
  · rw [hz j (by omega)]
    rw [List.getD_eq_getElem?_getD, List.getElem?_eq_none (by rw [List.length_take]; omega)]; rfl
/-- One step of a sum of products: t is what is at a place; its word stays, the rest is carried. -/
theorem step_words (P t v w : Nat) (h : v + P * t = w) : (v + P * (t % 4294967296)) + (P * 4294967296) * (t / 4294967296) = w := by
  have := Nat.mod_add_div t 4294967296
  grind
end Go.Proofs.Ytclggnaljijjoaa
