/-
  Plain lemmas on naturals as lists of words of 32 bits, the lowest first. No program in it. Plain lemmas: the order of naturals as lists of words, found from the highest word on. Plain lemmas: the words of a number, and how lists of words count, part by part. Plain lemmas: sums and differences of lists of words, word by word. Plain lemmas: a list of words times and divided by a power of 2 below 2^32, word by word. Slices of words in memory: how they read, and what keeps that. Contracts of cut, and of the two functions that tell a word. Contracts of own, of Norm of the program and of the reference. Contracts of the two functions that tell a word, of the comparison of lists, of Of of both, of Long and tooLong, answer and checked. Rows of words that a call may write. Contracts of Bits of the program and of the reference, and of the two orders of cmp. Plain lemmas: digits of a number in a radix, told and read. No program in it. A call that tells words in a slice. Plain facts on the bits of two words. Plain lemmas: a natural divided by a word, word by word. Trailing zeros: the table of the library read by the product with its constant; contract of TrailingZeros64.
-/
import GoSem.Core.Utf8
import Derived.WalkKit
import Derived.WalkSpells
import Derived.WalkLawsBesides
import Derived.Deep.QuietTactic
import Derived.BigQuiet
import Derived.Lib.Hide
import Derived.Deep.OwnRows
import Derived.Laws.CopyOwn
import Derived.Deep.AppendLies
import Derived.Lib.BitFns
import Derived.Lib.Strings
import Derived.Laws.BitsAllLaws
import Derived.Lib.LaidTab
import Derived.Test.YtmlgjijjkikkhaaGreatDoorProg
import Derived.Test.YtmlgjijjkikkhaaGreatDoorShelf
namespace Go.Proofs.YtmlgjijjkikkhaaGreatDoor
/-- What a list of words counts. -/
def val : List Nat → Nat
  | [] => 0
  | x :: r => x + 4294967296 * val r
/-- All are words. -/
def Ws (l : List Nat) : Prop := ∀ u ∈ l, u < 4294967296
/-- Without words of 0 at the end. -/
def nrm : List Nat → List Nat
  | [] => []
  | x :: r => if x = 0 ∧ nrm r = [] then [] else x :: nrm r
theorem Ws.nil : Ws [] := fun u h => by simp at h
theorem Ws.cons {x : Nat} {r : List Nat} (hx : x < 4294967296) (h : Ws r) : Ws (x :: r) := fun u hu => by
  rcases List.mem_cons.1 hu with rfl | hu
  · exact hx
  · exact h u hu
theorem Ws.head {x : Nat} {r : List Nat} (h : Ws (x :: r)) : x < 4294967296 := h x (by simp)
theorem Ws.tail {x : Nat} {r : List Nat} (h : Ws (x :: r)) : Ws r := fun u hu => h u (by simp [hu])
theorem Ws.append {l m : List Nat} (h : Ws l) (g : Ws m) : Ws (l ++ m) := fun u hu => by
  rcases List.mem_append.1 hu with hu | hu
  · exact h u hu
  · exact g u hu
theorem Ws.take {l : List Nat} (h : Ws l) (n : Nat) : Ws (l.take n) := fun u hu => h u (List.mem_of_mem_take hu)
theorem Ws.drop {l : List Nat} (h : Ws l) (n : Nat) : Ws (l.drop n) := fun u hu => h u (List.mem_of_mem_drop hu)
theorem Ws.get {l : List Nat} (h : Ws l) {k u : Nat} (e : l[k]? = some u) : u < 4294967296 := h u (List.mem_of_getElem? e)
theorem Ws.getD {l : List Nat} (h : Ws l) (k : Nat) : l.getD k 0 < 4294967296 := by
  rw [List.getD_eq_getElem?_getD]
  cases e : l[k]? with
  | none => simp
  | some u => exact h.get e
theorem nrm_nil : nrm [] = [] := rfl
theorem nrm_zero {r : List Nat} (h : nrm r = []) : nrm (0 :: r) = [] := by simp [nrm, h]
theorem nrm_cons {x : Nat} {r : List Nat} (h : ¬ (x = 0 ∧ nrm r = [])) : nrm (x :: r) = x :: nrm r := by rw [nrm, if_neg h]
theorem nrm_len : ∀ l : List Nat, (nrm l).length ≤ l.length
  | [] => by simp [nrm]
  | x :: r => by
    have := nrm_len r
    by_cases h : x = 0 ∧ nrm r = []
    · simp [nrm, h]
    · rw [nrm_cons h]; simp; exact this
theorem Ws.nrm : ∀ {l : List Nat}, Ws l → Ws (nrm l)
  | [], h => h
  | x :: r, h => by
    by_cases g : x = 0 ∧ Go.Proofs.YtmlgjijjkikkhaaGreatDoor.nrm r = []
    · rw [Go.Proofs.YtmlgjijjkikkhaaGreatDoor.nrm, if_pos g]; exact Ws.nil
    · rw [nrm_cons g]; exact Ws.cons h.head (Ws.nrm h.tail)
theorem nrm_take : ∀ l : List Nat, nrm l = l.take (nrm l).length
  | [] => rfl
  | x :: r => by
    by_cases h : x = 0 ∧ nrm r = []
    · simp [nrm, h]
    · rw [nrm_cons h]; simp; exact nrm_take r
theorem val_nrm : ∀ l : List Nat, val (nrm l) = val l
  | [] => rfl
  | x :: r => by
    have := val_nrm r
    by_cases h : x = 0 ∧ nrm r = []
    · rw [h.2] at this
      rw [nrm, if_pos h]
      simp only [val] at this ⊢
      omega
    · rw [nrm_cons h]; simp only [val, this]
theorem nrm_val_zero : ∀ {l : List Nat}, val l = 0 → nrm l = []
  | [], _ => rfl
  | x :: r, h => by
    simp only [val] at h
    have h1 : x = 0 := by omega
    have h2 : val r = 0 := by omega
    rw [h1, nrm_zero (nrm_val_zero h2)]
theorem val_inj : ∀ {l m : List Nat}, Ws l → Ws m → val l = val m → nrm l = nrm m
  | [], m, _, _, h => by rw [nrm_nil, nrm_val_zero (by rw [← h]; rfl)]
  | x :: r, [], _, _, h => by rw [nrm_nil, nrm_val_zero (by rw [h]; rfl)]
  | x :: r, y :: s, hl, hm, h => by
    have hx := hl.head
    have hy := hm.head
    simp only [val] at h
    have h1 : x = y := by omega
    have h2 : val r = val s := by omega
    have := val_inj hl.tail hm.tail h2
    simp only [nrm, h1, this]
theorem nrm_eq_nil {l : List Nat} (h : nrm l = []) : val l = 0 := by rw [← val_nrm, h]; rfl
theorem val_append : ∀ l m : List Nat, val (l ++ m) = val l + 4294967296 ^ l.length * val m
  | [], m => by simp [val]
  | x :: r, m => by
    rw [List.cons_append, val, val_append r m, val, List.length_cons, Nat.pow_succ, Nat.mul_add, Nat.mul_comm (4294967296 ^ r.length) 4294967296, Nat.mul_assoc]
    omega
theorem val_zeros (n : Nat) : val (List.replicate n 0) = 0 := by
  induction n with
  | zero => rfl
  | succ n ih => rw [List.replicate_succ, val, ih]
theorem val_lt : ∀ {l : List Nat}, Ws l → val l < 4294967296 ^ l.length
  | [], _ => by simp [val]
  | x :: r, h => by
    have h1 := h.head
    have h2 := val_lt h.tail
    rw [val, List.length_cons, Nat.pow_succ]
    have : 4294967296 * (val r + 1) ≤ 4294967296 ^ r.length * 4294967296 := by rw [Nat.mul_comm]; exact Nat.mul_le_mul_right _ h2
    omega
theorem val_ge {l : List Nat} (h : nrm l ≠ []) : 4294967296 ^ ((nrm l).length - 1) ≤ val l := by
  induction l with
  | nil => simp [nrm] at h
  | cons x r ih =>
    by_cases g : x = 0 ∧ nrm r = []
    · rw [nrm, if_pos g] at h; exact absurd rfl h
    · rw [nrm_cons g, val]
      by_cases e : nrm r = []
      · rw [e]; simp
        have : x ≠ 0 := fun hx => g ⟨hx, e⟩
        omega
      · have := ih e
        have hp : 0 < (nrm r).length := List.length_pos_iff.2 e
        obtain ⟨k, hk⟩ : ∃ k, (nrm r).length = k + 1 := ⟨(nrm r).length - 1, by omega⟩
        rw [hk] at this
        simp only [List.length_cons, hk, Nat.add_sub_cancel] at this ⊢
        rw [Nat.pow_succ, Nat.mul_comm]
        have h3 : 4294967296 * 4294967296 ^ k ≤ 4294967296 * val r := Nat.mul_le_mul_left _ this
        omega
end Go.Proofs.YtmlgjijjkikkhaaGreatDoor
namespace Go.Proofs.YtmlgjijjkikkhaaGreatDoor
theorem val_ht (l : List Nat) : val l = l.getD 0 0 + 4294967296 * val l.tail := by
  cases l with
  | nil => simp [val]
  | cons x r => simp [val]
theorem getD_tail (l : List Nat) (j : Nat) : l.tail.getD j 0 = l.getD (j + 1) 0 := by
  cases l with
  | nil => simp
  | cons x r => simp
theorem val_ext : ∀ (n : Nat) (l m : List Nat), l.length ≤ n → m.length ≤ n → (∀ j, l.getD j 0 = m.getD j 0) → val l = val m
  | 0, l, m, hl, hm, _ => by
    rw [List.eq_nil_of_length_eq_zero (by omega : l.length = 0), List.eq_nil_of_length_eq_zero (by omega : m.length = 0)]
  | n + 1, l, m, hl, hm, h => by
    rw [val_ht l, val_ht m, h 0, val_ext n l.tail m.tail (by rw [List.length_tail]; omega) (by rw [List.length_tail]; omega) (fun j => by rw [getD_tail, getD_tail, h])]
theorem val_eq {l m : List Nat} (h : ∀ j, l.getD j 0 = m.getD j 0) : val l = val m := val_ext (l.length + m.length) l m (by omega) (by omega) h
end Go.Proofs.YtmlgjijjkikkhaaGreatDoor
namespace Go.Proofs.YtmlgjijjkikkhaaGreatDoor
/-- The words of a number, f at most. -/
def wdsF : Nat → Nat → List Nat
  | 0, _ => []
  | f + 1, n => if n = 0 then [] else n % 4294967296 :: wdsF f (n / 4294967296)
/-- The natural of a number. -/
def wds (n : Nat) : List Nat := wdsF n n
theorem wdsF_ws : ∀ f n : Nat, Ws (wdsF f n)
  | 0, _ => Ws.nil
  | f + 1, n => by
    unfold wdsF
    split
    · exact Ws.nil
    · exact Ws.cons (by omega) (wdsF_ws f _)
theorem wds_ws (n : Nat) : Ws (wds n) := wdsF_ws n n
theorem wdsF_val : ∀ f n : Nat, n ≤ f → val (wdsF f n) = n
  | 0, n, h => by simp [wdsF, val]; omega
  | f + 1, n, h => by
    unfold wdsF
    split
    · next h0 => rw [h0]; rfl
    · next h0 => rw [val, wdsF_val f (n / 4294967296) (by omega)]; omega
theorem wds_val (n : Nat) : val (wds n) = n := wdsF_val n n (Nat.le_refl _)
theorem wdsF_nrm : ∀ f n : Nat, n ≤ f → nrm (wdsF f n) = wdsF f n
  | 0, _, _ => rfl
  | f + 1, n, h => by
    unfold wdsF
    split
    · rfl
    · next h0 =>
      rw [nrm_cons, wdsF_nrm f (n / 4294967296) (by omega)]
      rintro ⟨h1, h2⟩
      have h3 := nrm_eq_nil h2
      rw [wdsF_val f (n / 4294967296) (by omega)] at h3
      omega
theorem wds_nrm (n : Nat) : nrm (wds n) = wds n := wdsF_nrm n n (Nat.le_refl _)
theorem nrm_wds {l : List Nat} (h : Ws l) : nrm l = wds (val l) := by
  rw [← wds_nrm (val l)]
  exact val_inj h (wds_ws _) (wds_val _).symm
/-! ### part by part -/
theorem val_snoc (l : List Nat) (y : Nat) : val (l ++ [y]) = val l + 4294967296 ^ l.length * y := by rw [val_append]; simp [val]
theorem val_take_succ (l : List Nat) (k : Nat) (h : k < l.length) : val (l.take (k + 1)) = val (l.take k) + 4294967296 ^ k * l.getD k 0 := by
  have e : l[k] = l.getD k 0 := by rw [List.getD_eq_getElem?_getD, List.getElem?_eq_getElem h]; rfl
  have hk : (l.take k).length = k := by rw [List.length_take]; omega
  rw [List.take_succ_eq_append_getElem h, val_snoc, hk, e]
theorem val_part (l : List Nat) (i k : Nat) (h : i ≤ l.length) : val (l.take (i + k)) = val (l.take i) + 4294967296 ^ i * val ((l.drop i).take k) := by
  have hi : (l.take i).length = i := by rw [List.length_take]; omega
  rw [List.take_add, val_append, hi]
theorem getD_drop (l : List Nat) (i j : Nat) : (l.drop i).getD j 0 = l.getD (i + j) 0 := by
  rw [List.getD_eq_getElem?_getD, List.getD_eq_getElem?_getD, List.getElem?_drop]
theorem getD_take {l : List Nat} {k j : Nat} (h : j < k) : (l.take k).getD j 0 = l.getD j 0 := by
  rw [List.getD_eq_getElem?_getD, List.getD_eq_getElem?_getD, List.getElem?_take, if_pos h]
theorem getD_set_eq {l : List Nat} {k y : Nat} (h : k < l.length) : (l.set k y).getD k 0 = y := by
  rw [List.getD_eq_getElem?_getD, List.getElem?_set_self h]; rfl
theorem getD_set_ne {l : List Nat} {k j y : Nat} (h : k ≠ j) : (l.set k y).getD j 0 = l.getD j 0 := by
  rw [List.getD_eq_getElem?_getD, List.getD_eq_getElem?_getD, List.getElem?_set_ne h]
theorem Ws.set {l : List Nat} (h : Ws l) {k y : Nat} (hy : y < 4294967296) : Ws (l.set k y) := fun u hu => by
  rcases List.mem_or_eq_of_mem_set hu with h1 | h1
  · exact h u h1
  · rw [h1]; exact hy
theorem take_congr {l m : List Nat} (k : Nat) (hl : k ≤ l.length) (hm : k ≤ m.length) (h : ∀ j, j < k → l.getD j 0 = m.getD j 0) : l.take k = m.take k := by
  apply List.ext_getElem?
  intro j
  rw [List.getElem?_take, List.getElem?_take]
  split
  · next hj =>
    have := h j hj
    rw [List.getElem?_eq_getElem (by omega), List.getElem?_eq_getElem (by omega)]
    rw [List.getD_eq_getElem?_getD, List.getD_eq_getElem?_getD, List.getElem?_eq_getElem (by omega), List.getElem?_eq_getElem (by omega)] at this
    exact congrArg some this
  · rfl
theorem part_congr {l m : List Nat} (i k : Nat) (hl : i + k ≤ l.length) (hm : i + k ≤ m.length) (h : ∀ j, i ≤ j → j < i + k → l.getD j 0 = m.getD j 0) : (l.drop i).take k = (m.drop i).take k :=
  take_congr k (by rw [List.length_drop]; omega) (by rw [List.length_drop]; omega) (fun j hj => by rw [getD_drop, getD_drop]; exact h _ (by omega) (by omega))
theorem val_part_succ (l : List Nat) (i k : Nat) (h : i + k < l.length) : val ((l.drop i).take (k + 1)) = val ((l.drop i).take k) + 4294967296 ^ k * l.getD (i + k) 0 := by
  rw [val_take_succ (l.drop i) k (by rw [List.length_drop]; omega), getD_drop]
theorem val_take_zeros (l : List Nat) (k : Nat) (hz : ∀ j, k ≤ j → l.getD j 0 = 0) : val l = val (l.take k) := by
  refine val_eq (fun j => ?_)
  by_cases h : j < k
  · rw [getD_take h]
  · rw [hz j (by omega)]
    rw [List.getD_eq_getElem?_getD, List.getElem?_eq_none (by rw [List.length_take]; omega)]; rfl
/-- One step of a sum of products: t is what is at a place; its word stays, the rest is carried. -/
theorem step_words (P t v w : Nat) (h : v + P * t = w) : (v + P * (t % 4294967296)) + (P * 4294967296) * (t / 4294967296) = w := by
  have := Nat.mod_add_div t 4294967296
  grind
end Go.Proofs.YtmlgjijjkikkhaaGreatDoor
namespace Go.Proofs.YtmlgjijjkikkhaaGreatDoor
theorem val_take_next (l : List Nat) (k : Nat) : val (l.take (k + 1)) = val (l.take k) + 4294967296 ^ k * l.getD k 0 := by
  rcases Nat.lt_or_ge k l.length with h | h
  · exact val_take_succ l k h
  · rw [List.take_of_length_le (by omega), List.take_of_length_le h, List.getD_eq_getElem?_getD, List.getElem?_eq_none h]; simp
theorem val_take_end {l : List Nat} {k : Nat} (h : l.length ≤ k) : val (l.take k) = val l := by rw [List.take_of_length_le h]
/-- What stands in the first k words of a sum, c to be carried. -/
structure SumT (a b : List Nat) (k : Nat) (S : List Nat) (c : Nat) : Prop where
  ws : Ws S
  sum : val (S.take k) + 4294967296 ^ k * c = val (a.take k) + val (b.take k)
  low : c ≤ 1
def sumC (a b : List Nat) (k c : Nat) : Nat := a.getD k 0 + b.getD k 0 + c
theorem sumC_lt {a b : List Nat} {k c : Nat} (ha : Ws a) (hb : Ws b) (hc : c ≤ 1) : sumC a b k c < 8589934592 := by
  have h1 := ha.getD k
  have h2 := hb.getD k
  unfold sumC
  omega
/-- A list whose word k is the next word of the sum, and whose first k words are as they were. -/
theorem SumT.next {a b : List Nat} {k : Nat} {S T : List Nat} {c : Nat} (h : SumT a b k S c) (ha : Ws a) (hb : Ws b) (hT : Ws T) (e1 : T.take k = S.take k) (e2 : T.getD k 0 = sumC a b k c % 4294967296) :
    SumT a b (k + 1) T (sumC a b k c / 4294967296) := by
  have hlt := sumC_lt (k := k) ha hb h.low
  refine ⟨hT, ?_, by omega⟩
  have hs := h.sum
  rw [val_take_next T k, e1, e2, val_take_next a k, val_take_next b k]
  have e := step_words (4294967296 ^ k) (sumC a b k c) (val (S.take k)) (val (a.take k) + 4294967296 ^ k * a.getD k 0 + (val (b.take k) + 4294967296 ^ k * b.getD k 0)) (by unfold sumC; grind)
  rw [Nat.pow_succ]
  exact e
theorem carry_none {P Q va vb vS c : Nat} (h1 : va < P) (h2 : vb < P) (h3 : 2 * P ≤ Q) (hs : vS + Q * c = va + vb) : vS = va + vb := by
  rcases Nat.eq_zero_or_pos c with h0 | h0
  · rw [h0, Nat.mul_zero] at hs; omega
  · have h6 : Q * 1 ≤ Q * c := Nat.mul_le_mul_left _ h0
    omega
theorem pow_twice (n : Nat) : 2 * 4294967296 ^ n ≤ 4294967296 ^ (n + 1) := by
  rw [Nat.pow_succ, Nat.mul_comm]
  exact Nat.mul_le_mul_left _ (by omega)
theorem SumT.whole {a b : List Nat} {n : Nat} {S : List Nat} {c : Nat} (h : SumT a b (n + 1) S c) (ha : Ws a) (hb : Ws b) (hn : a.length ≤ n) (hm : b.length ≤ n) (hS : S.length = n + 1) : val S = val a + val b := by
  have hs := h.sum
  rw [val_take_end (Nat.le_of_eq hS), val_take_end (Nat.le_succ_of_le hn), val_take_end (Nat.le_succ_of_le hm)] at hs
  exact carry_none (Nat.lt_of_lt_of_le (val_lt ha) (Nat.pow_le_pow_right (by omega) hn)) (Nat.lt_of_lt_of_le (val_lt hb) (Nat.pow_le_pow_right (by omega) hm)) (pow_twice n) hs
theorem borrow_none {P va vb vS c : Nat} (h1 : vS < P) (h2 : vb ≤ va) (hs : vS + vb = va + P * c) : vS = va - vb := by
  rcases Nat.eq_zero_or_pos c with h0 | h0
  · rw [h0, Nat.mul_zero] at hs; omega
  · have h6 : P * 1 ≤ P * c := Nat.mul_le_mul_left _ h0
    omega
/-- What stands in the first k words of a difference, c to be taken. -/
structure SubT (a b : List Nat) (k : Nat) (S : List Nat) (c : Nat) : Prop where
  ws : Ws S
  sum : val (S.take k) + val (b.take k) = val (a.take k) + 4294967296 ^ k * c
  low : c ≤ 1
/-- The next word of a difference, and what is to be taken then. -/
def subW (a b : List Nat) (k c : Nat) : Nat := (a.getD k 0 + 4294967296 * 2 - b.getD k 0 - c) % 4294967296
def subC (a b : List Nat) (k c : Nat) : Nat := if a.getD k 0 < b.getD k 0 + c then 1 else 0
theorem SubT.next {a b : List Nat} {k : Nat} {S T : List Nat} {c : Nat} (h : SubT a b k S c) (ha : Ws a) (hb : Ws b) (hT : Ws T) (e1 : T.take k = S.take k) (e2 : T.getD k 0 = subW a b k c) :
    SubT a b (k + 1) T (subC a b k c) := by
  have h1 := ha.getD k
  have h2 := hb.getD k
  have h3 := h.low
  have hs := h.sum
  refine ⟨hT, ?_, by unfold subC; split <;> omega⟩
  rw [val_take_next T k, e1, e2, val_take_next a k, val_take_next b k]
  have key : subW a b k c + b.getD k 0 + c = a.getD k 0 + 4294967296 * subC a b k c := by
    unfold subW subC
    split <;> omega
  rw [Nat.pow_succ]
  have : 4294967296 ^ k * (subW a b k c + b.getD k 0 + c) = 4294967296 ^ k * (a.getD k 0 + 4294967296 * subC a b k c) := by rw [key]
  grind
theorem SubT.whole {a b : List Nat} {n : Nat} {S : List Nat} {c : Nat} (h : SubT a b n S c) (hn : a.length ≤ n) (hm : b.length ≤ n) (hS : S.length = n) (hle : val b ≤ val a) : val S = val a - val b := by
  have hs := h.sum
  rw [val_take_end (by omega), val_take_end hn, val_take_end hm] at hs
  have h1 := val_lt h.ws
  rw [hS] at h1
  exact borrow_none h1 hle hs
end Go.Proofs.YtmlgjijjkikkhaaGreatDoor
namespace Go.Proofs.YtmlgjijjkikkhaaGreatDoor
theorem pow_parts {s : Nat} (hs : s ≤ 32) : 2 ^ s * 2 ^ (32 - s) = 4294967296 := by
  rw [← Nat.pow_add, show s + (32 - s) = 32 by omega]
/-- What a word hands to the next one, when it is times 2^s. -/
def carL (a : List Nat) (s k : Nat) : Nat := if k = 0 then 0 else a.getD (k - 1) 0 / 2 ^ (32 - s)
/-- The word at a place of a times 2^s. -/
def shlW (a : List Nat) (s k : Nat) : Nat := a.getD k 0 * 2 ^ s % 4294967296 + carL a s k
theorem mul_div_low (x s : Nat) (hs : s ≤ 32) : x * 2 ^ s / 4294967296 = x / 2 ^ (32 - s) := by
  rw [← pow_parts hs, Nat.mul_comm x, Nat.mul_div_mul_left _ _ (Nat.two_pow_pos s)]
theorem mul_mod_low (x s : Nat) (hs : s ≤ 32) : x * 2 ^ s % 4294967296 = 2 ^ s * (x % 2 ^ (32 - s)) := by
  rw [← pow_parts hs, Nat.mul_comm x, Nat.mul_mod_mul_left]
theorem div_lt_low (y s : Nat) (hs : s ≤ 32) (hy : y < 4294967296) : y / 2 ^ (32 - s) < 2 ^ s := by
  rw [Nat.div_lt_iff_lt_mul (Nat.two_pow_pos _), pow_parts hs]; exact hy
theorem sum_low (x y s : Nat) (hs : s ≤ 32) (hy : y < 4294967296) : x * 2 ^ s % 4294967296 + y / 2 ^ (32 - s) < 4294967296 := by
  have h1 := div_lt_low y s hs hy
  have h2 : x % 2 ^ (32 - s) < 2 ^ (32 - s) := Nat.mod_lt _ (Nat.two_pow_pos _)
  rw [mul_mod_low x s hs]
  have h3 : 2 ^ s * (x % 2 ^ (32 - s) + 1) ≤ 2 ^ s * 2 ^ (32 - s) := Nat.mul_le_mul_left _ h2
  rw [pow_parts hs, Nat.mul_add, Nat.mul_one] at h3
  omega
theorem shlW_lt {a : List Nat} (ha : Ws a) (s k : Nat) (hs : s ≤ 32) : shlW a s k < 4294967296 := by
  unfold shlW carL
  split
  · omega
  · exact sum_low _ _ s hs (ha.getD _)
/-- What stands in a part of a row, when k words of a times 2^s were written from o on. -/
structure ShlP (R : List Nat) (o : Nat) (a : List Nat) (s k : Nat) (S : List Nat) : Prop where
  len : S.length = R.length
  ws : Ws S
  far : ∀ j, j < o ∨ o + k ≤ j → S.getD j 0 = R.getD j 0
  sum : val ((S.drop o).take k) + 4294967296 ^ k * carL a s k = 2 ^ s * val (a.take k)
theorem ShlP.next {R : List Nat} {o : Nat} {a : List Nat} {s k : Nat} {S : List Nat} (h : ShlP R o a s k S) (ha : Ws a) (hs : s ≤ 32) (ho : o + k < R.length) :
    ShlP R o a s (k + 1) (S.set (o + k) (shlW a s k)) := by
  obtain ⟨h1, h2, h3, h4⟩ := h
  refine ⟨by rw [List.length_set]; exact h1, h2.set (shlW_lt ha s k hs), fun j hj => by rw [getD_set_ne (by omega), h3 j (by omega)], ?_⟩
  rw [val_part_succ _ o k (by rw [List.length_set]; omega), val_take_next a k, getD_set_eq (by omega)]
  rw [part_congr (l := S.set (o + k) (shlW a s k)) (m := S) o k (by rw [List.length_set]; omega) (by omega) (fun j _ hj => getD_set_ne (by omega))]
  have e1 : carL a s (k + 1) = a.getD k 0 * 2 ^ s / 4294967296 := by
    unfold carL; rw [if_neg (by omega), Nat.add_sub_cancel, mul_div_low _ s hs]
  have e := step_words (4294967296 ^ k) (a.getD k 0 * 2 ^ s) (val ((S.drop o).take k) + 4294967296 ^ k * carL a s k) (2 ^ s * (val (a.take k) + 4294967296 ^ k * a.getD k 0)) (by rw [h4]; grind)
  rw [e1, Nat.pow_succ]
  unfold shlW
  grind
theorem ShlP.whole {R : List Nat} {o : Nat} {a : List Nat} {s n : Nat} {S : List Nat} (h : ShlP R o a s n S) (hn : a.length < n) : val ((S.drop o).take n) = 2 ^ s * val a := by
  have h4 := h.sum
  have e : carL a s n = 0 := by
    unfold carL
    split
    · rfl
    · rw [List.getD_eq_getElem?_getD, List.getElem?_eq_none (by omega)]; simp
  rw [e, Nat.mul_zero, Nat.add_zero, val_take_end (l := a) (by omega)] at h4
  exact h4
/-- The word at a place of a divided by 2^s. -/
def shrW (a : List Nat) (s k : Nat) : Nat := a.getD (k + 1) 0 * 2 ^ (32 - s) % 4294967296 + a.getD k 0 / 2 ^ s
theorem shrW_lt {a : List Nat} (ha : Ws a) (s k : Nat) (hs : s ≤ 32) : shrW a s k < 4294967296 := by
  unfold shrW
  have := sum_low (a.getD (k + 1) 0) (a.getD k 0) (32 - s) (by omega) (ha.getD k)
  rw [show 32 - (32 - s) = s by omega] at this
  exact this
structure ShrP (R : List Nat) (o : Nat) (a : List Nat) (s k : Nat) (S : List Nat) : Prop where
  len : S.length = R.length
  ws : Ws S
  far : ∀ j, j < o ∨ o + k ≤ j → S.getD j 0 = R.getD j 0
  sum : 2 ^ s * val ((S.drop o).take k) + a.getD 0 0 % 2 ^ s = val (a.take k) + 4294967296 ^ k * (a.getD k 0 % 2 ^ s)
theorem shrW_times (a : List Nat) (s k : Nat) (hs : s ≤ 32) : 2 ^ s * shrW a s k + a.getD k 0 % 2 ^ s = a.getD k 0 + 4294967296 * (a.getD (k + 1) 0 % 2 ^ s) := by
  have h1 := Nat.div_add_mod (a.getD k 0) (2 ^ s)
  have h2 := mul_mod_low (a.getD (k + 1) 0) (32 - s) (by omega)
  rw [show 32 - (32 - s) = s by omega] at h2
  have h3 := pow_parts hs
  unfold shrW
  rw [h2, ← h3]
  generalize 2 ^ s = P at *
  generalize 2 ^ (32 - s) = Q at *
  generalize a.getD (k + 1) 0 % P = z at *
  have e : P * (Q * z + a.getD k 0 / P) = P * Q * z + P * (a.getD k 0 / P) := by rw [Nat.mul_add, Nat.mul_assoc]
  omega
theorem ShrP.next {R : List Nat} {o : Nat} {a : List Nat} {s k : Nat} {S : List Nat} (h : ShrP R o a s k S) (ha : Ws a) (hs : s ≤ 32) (ho : o + k < R.length) :
    ShrP R o a s (k + 1) (S.set (o + k) (shrW a s k)) := by
  obtain ⟨h1, h2, h3, h4⟩ := h
  refine ⟨by rw [List.length_set]; exact h1, h2.set (shrW_lt ha s k hs), fun j hj => by rw [getD_set_ne (by omega), h3 j (by omega)], ?_⟩
  rw [val_part_succ _ o k (by rw [List.length_set]; omega), val_take_next a k, getD_set_eq (by omega)]
  rw [part_congr (l := S.set (o + k) (shrW a s k)) (m := S) o k (by rw [List.length_set]; omega) (by omega) (fun j _ hj => getD_set_ne (by omega))]
  have e := shrW_times a s k hs
  rw [Nat.pow_succ]
  generalize 4294967296 ^ k = K at *
  generalize shrW a s k = W at *
  have e2 : K * (2 ^ s * W + a.getD k 0 % 2 ^ s) = K * (a.getD k 0 + 4294967296 * (a.getD (k + 1) 0 % 2 ^ s)) := by rw [e]
  grind
theorem ShrP.whole {R : List Nat} {o : Nat} {a : List Nat} {s n : Nat} {S : List Nat} (h : ShrP R o a s n S) (hn : a.length ≤ n) : val ((S.drop o).take n) = val a / 2 ^ s := by
  have h4 := h.sum
  have e : a.getD n 0 = 0 := by rw [List.getD_eq_getElem?_getD, List.getElem?_eq_none hn]; rfl
  rw [e, Nat.zero_mod, Nat.mul_zero, Nat.add_zero, val_take_end (l := a) hn] at h4
  rw [← h4, Nat.add_comm, Nat.add_mul_div_left _ _ (Nat.two_pow_pos s), Nat.div_eq_of_lt (Nat.mod_lt _ (Nat.two_pow_pos s)), Nat.zero_add]

end Go.Proofs.YtmlgjijjkikkhaaGreatDoor
namespace Go.Proofs.YtmlgjijjkikkhaaGreatDoor
open Go.RowKit
/-- The cells from A on read as the words l, in a block below B. -/
def RW (w : World) (B : Nat) (A : Option Addr) (l : List Nat) : Prop :=
  Ws l ∧ (0 < l.length → ∃ b off, A = some ⟨b, off, none⟩ ∧ b < B ∧ ∀ k u : Nat, l[k]? = some u → w.cell? ⟨b, off + k, none⟩ = some (.int .u32 (u : Int)))
/-- A slice that reads as the words l. -/
def Sl (w : World) (B : Nat) (v : Value) (l : List Nat) : Prop := ∃ A c, v = .slice A l.length c ∧ l.length ≤ c ∧ RW w B A l
theorem RW.nil (w : World) (B : Nat) (A : Option Addr) : RW w B A [] := ⟨Ws.nil, fun h => by simp at h⟩
theorem RW.keep {w w' : World} {B : Nat} {A : Option Addr} {l : List Nat} (h : RW w B A l) (hk : ∀ p : Addr, p.block < B → w'.cell? p = w.cell? p) : RW w' B A l := ⟨h.1, fun hl => by
  obtain ⟨b, off, e, hb, hc⟩ := h.2 hl
  exact ⟨b, off, e, hb, fun k u hu => (hk ⟨b, off + k, none⟩ hb).trans (hc k u hu)⟩⟩
theorem RW.more {w : World} {B C : Nat} {A : Option Addr} {l : List Nat} (h : RW w B A l) (hB : B ≤ C) : RW w C A l := ⟨h.1, fun hl => by
  obtain ⟨b, off, e, hb, hc⟩ := h.2 hl
  exact ⟨b, off, e, by omega, hc⟩⟩
theorem RW.below {w w' : World} {B : Nat} {A : Option Addr} {l : List Nat} (h : RW w B A l) (hb : Below B w w') : RW w' B A l := h.keep fun _ hp => hb.cell hp
theorem RW.drewN {w : World} {B : Nat} {A : Option Addr} {l : List Nat} (h : RW w B A l) (n : Nat) : RW (w.drewN n) B A l := h
theorem RW.take {w : World} {B : Nat} {A : Option Addr} {l : List Nat} (h : RW w B A l) (n : Nat) : RW w B A (l.take n) := ⟨h.1.take n, fun hl => by
  obtain ⟨b, off, e, hb, hc⟩ := h.2 (by rw [List.length_take] at hl; omega)
  refine ⟨b, off, e, hb, fun k u hu => hc k u ?_⟩
  rw [List.getElem?_take] at hu
  split at hu
  · exact hu
  · cases hu⟩
theorem RW.step {w w' : World} {A : Option Addr} {l : List Nat} (h : RW w w.heap.size A l) (hb : Below w.heap.size w w') : RW w' w'.heap.size A l := (h.below hb).more hb.size
theorem getD_some {l : List Nat} {k : Nat} (h : k < l.length) : l[k]? = some (l.getD k 0) := by
  rw [List.getD_eq_getElem?_getD, List.getElem?_eq_getElem h]; rfl
theorem Sl.nil (w : World) (B c : Nat) : Sl w B (.slice none 0 c) [] := ⟨none, c, rfl, Nat.zero_le _, RW.nil _ _ _⟩
theorem Sl.step {w w' : World} {v : Value} {l : List Nat} (h : Sl w w.heap.size v l) (hb : Below w.heap.size w w') : Sl w' w'.heap.size v l := by
  obtain ⟨A, c, e, hc, hr⟩ := h
  exact ⟨A, c, e, hc, hr.step hb⟩
theorem Sl.drewN {w : World} {B : Nat} {v : Value} {l : List Nat} (h : Sl w B v l) (n : Nat) : Sl (w.drewN n) B v l := h
theorem below_drewN' {B : Nat} {a w : World} (h : Below B a w) (n : Nat) : Below B a (w.drewN n) := ⟨h.os, h.tape, h.output, h.size, h.block⟩
theorem below_le {W w w' : World} (h : Below W.heap.size W w) (h2 : Below w.heap.size w w') : Below W.heap.size W w' := h.trans (h2.mono h.size)
end Go.Proofs.YtmlgjijjkikkhaaGreatDoor
namespace Go.Proofs.YtmlgjijjkikkhaaGreatDoor
open Go.RowKit
theorem RW.nrm {w : World} {B : Nat} {A : Option Addr} {l : List Nat} (h : RW w B A l) : RW w B A (nrm l) := by rw [nrm_take]; exact h.take _

end Go.Proofs.YtmlgjijjkikkhaaGreatDoor
namespace Go.Proofs.YtmlgjijjkikkhaaGreatDoor
open Go.RowKit
/-- A row of the call's own that holds the words l. -/
abbrev OwnW (B : Nat) (l : List Nat) (v : Value) (w : World) : Prop := w.ownsRow B 159 1 v l.length (l.map fun u => Value.int .u32 (u : Nat))
theorem OwnW.nil (B : Nat) (w : World) : OwnW B [] (.slice none 0 0) w := World.ownsRow_nil _ _ _ _
theorem OwnW.sl {B : Nat} {l : List Nat} {v : Value} {w : World} (h : OwnW B l v w) (hw : Ws l) : Sl w w.heap.size v l := by
  rcases h.2 with ⟨rfl, h0⟩ | ⟨g, cap, cur, rfl, hB, hg, hcap, hmax, hcur, htk⟩
  · obtain rfl : l = [] := List.eq_nil_of_length_eq_zero h0
    exact Sl.nil _ _ _
  · refine ⟨_, cap, rfl, hcap, hw, fun hl => ⟨g, 0, rfl, (World.ownsRow.lt h g rfl).2, fun k u hu => ?_⟩⟩
    have := h.cells (g := g) rfl k (.int .u32 (u : Nat)) (by rw [List.getElem?_map, hu]; rfl)
    by_cases hz : k = 0
    · subst hz; simpa [Addr.add] using this
    · simpa [Addr.add, hz] using this
theorem OwnW.cap {B : Nat} {l : List Nat} {A : Option Addr} {n c : Nat} {w : World} (h : OwnW B l (.slice A n c) w) : n = l.length ∧ n ≤ c := by
  rcases h.2 with ⟨e, h0⟩ | ⟨g, cap, cur, e, hB, hg, hcap, hmax, hcur, htk⟩
  · cases e; exact ⟨by omega, Nat.le_refl _⟩
  · cases e; exact ⟨rfl, hcap⟩
def OwnPost (l : List Nat) (w : World) (e : Ending) (w' : World) : Prop := ∃ v, e = .returned v ∧ OwnW w.heap.size l v w' ∧ Below w.heap.size w w'
end Go.Proofs.YtmlgjijjkikkhaaGreatDoor
namespace Go.Proofs.YtmlgjijjkikkhaaGreatDoor
open Go.RowKit
/-- A call that tells the words l, and changes nothing that was. -/
def SlPost (l : List Nat) (w : World) (e : Ending) (w' : World) : Prop := ∃ v, e = .returned v ∧ Sl w' w'.heap.size v l ∧ Below w.heap.size w w'
theorem SlPost.of {l : List Nat} {w : World} {e : Ending} {w' : World} (hw : Ws l) (h : OwnPost l w e w') : SlPost l w e w' := by
  obtain ⟨v, e, ho, hb⟩ := h
  exact ⟨v, e, ho.sl hw, hb⟩
/-- The words of a number of 64 bits. -/
def two (n : Nat) : List Nat := [n % 4294967296, n / 4294967296]
end Go.Proofs.YtmlgjijjkikkhaaGreatDoor
namespace Go.Proofs.YtmlgjijjkikkhaaGreatDoor
open Go.RowKit
/-- Block g is a row of just the words R. -/
def Row (w : World) (g : Nat) (R : List Nat) : Prop := w.heap[g]? = some (.cells (R.map fun u => Value.int .u32 (u : Nat)).toArray 159 (0, 0))
theorem Row.lt {w : World} {g : Nat} {R : List Nat} (h : Row w g R) : g < w.heap.size := by
  rcases Nat.lt_or_ge g w.heap.size with hlt | hge
  · exact hlt
  · unfold Row at h; rw [Array.getElem?_eq_none hge] at h; cases h
theorem Row.cell {w : World} {g : Nat} {R : List Nat} (h : Row w g R) (i : Nat) (hi : i < R.length) : w.cell? ⟨g, i, none⟩ = some (.int .u32 ((R.getD i 0 : Nat) : Int)) := by
  rw [cell_of_row w g i _ _ _ h, List.getElem?_toArray, List.getElem?_map, getD_some hi]; rfl
theorem Row.frozen {w : World} {g : Nat} {R : List Nat} (h : Row w g R) (i : Nat) : w.frozen? ⟨g, i, none⟩ = false := by
  unfold Row at h
  simp [World.frozen?, h]
theorem Row.drewN {w : World} {g : Nat} {R : List Nat} (h : Row w g R) (n : Nat) : Row (w.drewN n) g R := h
theorem Row.below {w w' : World} {g B : Nat} {R : List Nat} (h : Row w g R) (hg : g < B) (hb : Below B w w') : Row w' g R := (hb.block g hg).trans h
theorem Row.set {w : World} {g : Nat} {R : List Nat} (h : Row w g R) (i u : Nat) : Row (w.setCell ⟨g, i, none⟩ (.int .u32 (u : Nat))) g (R.set i u) := by
  unfold Row at h ⊢
  rw [List.map_set]
  simp [World.setCell, Array.getElem?_modify, h]
theorem Row.rw {w : World} {g : Nat} {R : List Nat} (h : Row w g R) (hw : Ws R) (o n : Nat) (ho : o + n ≤ R.length) : RW w (g + 1) (some ⟨g, o, none⟩) ((R.drop o).take n) := ⟨(hw.drop o).take n, fun _ => by
  refine ⟨g, o, rfl, by omega, fun k u hu => ?_⟩
  rw [List.getElem?_take] at hu
  split at hu
  · next hk =>
    rw [List.getElem?_drop] at hu
    have := h.cell (o + k) (by omega)
    rw [List.getD_eq_getElem?_getD, hu] at this
    exact this
  · cases hu⟩
theorem Ws.zeros (n : Nat) : Ws (List.replicate n 0) := fun u hu => by rw [List.eq_of_mem_replicate hu]; omega
end Go.Proofs.YtmlgjijjkikkhaaGreatDoor
namespace Go.Proofs.YtmlgjijjkikkhaaGreatDoor
open Go.RowKit
end Go.Proofs.YtmlgjijjkikkhaaGreatDoor
namespace Go.Proofs.YtmlgjijjkikkhaaGreatDoor
/-- What a list of digits counts, the lowest first. -/
def dv (r : Nat) : List Nat → Nat
  | [] => 0
  | x :: l => x + r * dv r l
/-- All are digits. -/
def Ds (r : Nat) (l : List Nat) : Prop := ∀ u ∈ l, u < r
/-- Without noughts at the end. -/
def dstrip : List Nat → List Nat
  | [] => []
  | x :: l => if x = 0 ∧ dstrip l = [] then [] else x :: dstrip l
theorem Ds.nil (r : Nat) : Ds r [] := fun u h => by simp at h
theorem Ds.head {r x : Nat} {l : List Nat} (h : Ds r (x :: l)) : x < r := h x (by simp)
theorem Ds.tail {r x : Nat} {l : List Nat} (h : Ds r (x :: l)) : Ds r l := fun u hu => h u (by simp [hu])
theorem Ds.snoc {r x : Nat} {l : List Nat} (h : Ds r l) (hx : x < r) : Ds r (l ++ [x]) := fun u hu => by
  rcases List.mem_append.1 hu with h1 | h1
  · exact h u h1
  · simp at h1; rw [h1]; exact hx
theorem dv_snoc (r : Nat) : ∀ (l : List Nat) (x : Nat), dv r (l ++ [x]) = dv r l + r ^ l.length * x
  | [], x => by simp [dv]
  | y :: l, x => by
    rw [List.cons_append, dv, dv_snoc r l x, dv, List.length_cons, Nat.pow_succ]
    grind
theorem dstrip_pos : ∀ {l : List Nat}, (l = [] ∨ l.getLast? ≠ some 0) → dstrip l = l
  | [], _ => rfl
  | x :: l, h => by
    have h1 : (x :: l).getLast? ≠ some 0 := by
      rcases h with h | h
      · cases h
      · exact h
    rw [dstrip]
    cases l with
    | nil =>
      have : x ≠ 0 := fun e => h1 (by rw [e]; rfl)
      rw [if_neg (fun h => this h.1)]; rfl
    | cons y l =>
      have h2 := dstrip_pos (l := y :: l) (.inr (by rw [List.getLast?_cons_cons] at h1; exact h1))
      rw [h2, if_neg (fun h => by cases h.2)]
/-! ### read -/
/-- What the first k digits count. -/
def pv (r : Nat) (g : Nat → Nat) : Nat → Nat
  | 0 => 0
  | k + 1 => pv r g k * r + g k
theorem pv_add (r : Nat) (g : Nat → Nat) (o : Nat) : ∀ n, pv r g (o + n) = pv r g o * r ^ n + pv r (fun i => g (o + i)) n
  | 0 => by simp [pv]
  | n + 1 => by
    rw [← Nat.add_assoc, pv, pv_add r g o n, pv, Nat.pow_succ]
    grind
theorem pv_lt {r : Nat} {g : Nat → Nat} : ∀ {n : Nat}, (∀ i, i < n → g i < r) → pv r g n < r ^ n
  | 0, _ => by simp [pv]
  | n + 1, h => by
    have h1 := pv_lt (fun i hi => h i (by omega)) (r := r) (g := g) (n := n)
    have h2 := h n (by omega)
    rw [pv, Nat.pow_succ]
    have : (pv r g n + 1) * r ≤ r ^ n * r := Nat.mul_le_mul_right _ h1
    rw [Nat.add_mul] at this
    omega
theorem pv_congr {r : Nat} {g f : Nat → Nat} : ∀ {n : Nat}, (∀ i, i < n → g i = f i) → pv r g n = pv r f n
  | 0, _ => rfl
  | n + 1, h => by rw [pv, pv, pv_congr (fun i hi => h i (by omega)), h n (by omega)]
/-- What a letter counts as a digit; 36, if it is none. -/
def dgt (c : Nat) : Nat := if 48 ≤ c ∧ c ≤ 57 then c - 48 else if 97 ≤ c ∧ c ≤ 122 then c - 97 + 10 else if 65 ≤ c ∧ c ≤ 90 then c - 65 + 10 else 36
/-- A byte of a string. -/
def btn (s : ByteArray) (k : Nat) : Nat := (s.data[k]?.getD 0).toNat
theorem btn_eq (s : ByteArray) (k : Nat) (h : k < s.size) : ((s[k]'h).toNat : Nat) = btn s k := by
  unfold btn
  rw [Array.getElem?_eq_getElem (by exact h)]; rfl
end Go.Proofs.YtmlgjijjkikkhaaGreatDoor
namespace Go.Proofs.YtmlgjijjkikkhaaGreatDoor
open Go.RowKit
end Go.Proofs.YtmlgjijjkikkhaaGreatDoor
namespace Go.Proofs.YtmlgjijjkikkhaaGreatDoor
open Go.RowKit
end Go.Proofs.YtmlgjijjkikkhaaGreatDoor
namespace Go.Proofs.YtmlgjijjkikkhaaGreatDoor
theorem val_split (l : List Nat) (k : Nat) (h : k ≤ l.length) : val l = val (l.take k) + 4294967296 ^ k * val (l.drop k) := by
  have hk : (l.take k).length = k := by rw [List.length_take]; omega
  have := val_append (l.take k) (l.drop k)
  rw [List.take_append_drop, hk] at this
  exact this
theorem val_take_small {l : List Nat} {k : Nat} (h : val l < 4294967296 ^ k) : val (l.take k) = val l := by
  rcases Nat.lt_or_ge l.length k with h1 | h1
  · rw [List.take_of_length_le (by omega)]
  · have e := val_split l k h1
    rcases Nat.eq_zero_or_pos (val (l.drop k)) with h2 | h2
    · rw [h2] at e; omega
    · have : 4294967296 ^ k * 1 ≤ 4294967296 ^ k * val (l.drop k) := Nat.mul_le_mul_left _ h2
      omega
theorem val_drop_cons (l : List Nat) (i : Nat) (h : i < l.length) : val (l.drop i) = l.getD i 0 + 4294967296 * val (l.drop (i + 1)) := by
  rw [List.drop_eq_getElem_cons h, val]
  congr 1
  rw [List.getD_eq_getElem?_getD, List.getElem?_eq_getElem h]; rfl
/-! ### by a word -/
/-- The state of the division by a word d: the words from i on are the quotient's, and r is the rest so far. -/
structure WordT (a : List Nat) (d i : Nat) (S : List Nat) (r : Nat) : Prop where
  len : S.length = a.length
  ws : Ws S
  far : ∀ j, j < i → S.getD j 0 = a.getD j 0
  sum : val (S.drop i) * d + r = val (a.drop i)
  low : r < d
theorem WordT.next {a : List Nat} {d i : Nat} {S : List Nat} {r : Nat} (h : WordT a d (i + 1) S r) (ha : Ws a) (hi : i < a.length) (hd : d < 4294967296) :
    S.getD i 0 = a.getD i 0 ∧ (r * 4294967296 + a.getD i 0) / d < 4294967296 ∧ WordT a d i (S.set i ((r * 4294967296 + a.getD i 0) / d)) ((r * 4294967296 + a.getD i 0) % d) := by
  obtain ⟨h1, h2, h3, h4, h5⟩ := h
  have hx := ha.getD i
  have hd0 : 0 < d := by omega
  have hq : (r * 4294967296 + a.getD i 0) / d < 4294967296 := by
    rw [Nat.div_lt_iff_lt_mul hd0]
    have : (r + 1) * 4294967296 ≤ d * 4294967296 := Nat.mul_le_mul_right _ h5
    omega
  refine ⟨h3 i (by omega), hq, by rw [List.length_set]; exact h1, h2.set hq, fun j hj => by rw [getD_set_ne (by omega)]; exact h3 j (by omega), ?_, Nat.mod_lt _ hd0⟩
  rw [val_drop_cons _ i (by rw [List.length_set]; omega), getD_set_eq (by omega), val_drop_cons a i hi, List.drop_set, if_pos (by omega)]
  have e := Nat.mod_add_div (r * 4294967296 + a.getD i 0) d
  generalize (r * 4294967296 + a.getD i 0) / d = q at *
  generalize (r * 4294967296 + a.getD i 0) % d = z at *
  generalize val (S.drop (i + 1)) = V at *
  rw [← h4]
  grind
theorem WordT.fin {a : List Nat} {d : Nat} {S : List Nat} {r : Nat} (h : WordT a d 0 S r) : val S = val a / d ∧ r = val a % d := by
  obtain ⟨h1, h2, h3, h4, h5⟩ := h
  rw [List.drop_zero, List.drop_zero] at h4
  have e1 : val a / d = val S := by
    rw [← h4, Nat.add_comm, Nat.add_mul_div_right _ _ (by omega), Nat.div_eq_of_lt h5, Nat.zero_add]
  have e2 := Nat.mod_add_div (val a) d
  rw [e1, Nat.mul_comm] at e2
  exact ⟨e1.symm, by omega⟩

end Go.Proofs.YtmlgjijjkikkhaaGreatDoor
namespace Go.Proofs.YtmlgjijjkikkhaaGreatDoor
open Go.RowKit

end Go.Proofs.YtmlgjijjkikkhaaGreatDoor
