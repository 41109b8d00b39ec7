/-
  Plain lemmas on naturals as lists of words of 32 bits, the lowest first. No program in it.
-/
import GoSem.Core.Utf8
namespace Go.Proofs.Ytclggnaljijjoaa
/-- What a list of words counts. -/
def val : List Nat → Nat
  | [] => 0
  | x :: r => x + 4294967296 * val r
/-- All are words. -/
def Ws (l : List Nat) : Prop := ∀ u ∈ l, u < 4294967296
/-- Without words of 0 at the end. -/
def nrm : List Nat → List Nat
  | [] => []
  | x :: r => if x = 0 ∧ nrm r = [] then [] else x :: nrm r
theorem Ws.nil : Ws [] := fun u h => by simp at h
theorem Ws.cons {x : Nat} {r : List Nat} (hx : x < 4294967296) (h : Ws r) : Ws (x :: r) := fun u hu => by
  rcases List.mem_cons.1 hu with rfl | hu
  · exact hx
  · exact h u hu
theorem Ws.head {x : Nat} {r : List Nat} (h : Ws (x :: r)) : x < 4294967296 := h x (by simp)
theorem Ws.tail {x : Nat} {r : List Nat} (h : Ws (x :: r)) : Ws r := fun u hu => h u (by simp [hu])
theorem Ws.append {l m : List Nat} (h : Ws l) (g : Ws m) : Ws (l ++ m) := fun u hu => by
  rcases List.mem_append.1 hu with hu | hu
  · exact h u hu
  · exact g u hu
theorem Ws.take {l : List Nat} (h : Ws l) (n : Nat) : Ws (l.take n) := fun u hu => h u (List.mem_of_mem_take hu)
theorem Ws.drop {l : List Nat} (h : Ws l) (n : Nat) : Ws (l.drop n) := fun u hu => h u (List.mem_of_mem_drop hu)
theorem Ws.get {l : List Nat} (h : Ws l) {k u : Nat} (e : l[k]? = some u) : u < 4294967296 := h u (List.mem_of_getElem? e)
theorem Ws.getD {l : List Nat} (h : Ws l) (k : Nat) : l.getD k 0 < 4294967296 := by
  rw [List.getD_eq_getElem?_getD]
  cases e : l[k]? with
  | none => simp
  | some u => exact h.get e
theorem nrm_nil : nrm [] = [] := rfl
theorem nrm_zero {r : List Nat} (h : nrm r = []) : nrm (0 :: r) = [] := by simp [nrm, h]
theorem nrm_cons {x : Nat} {r : List Nat} (h : ¬ (x = 0 ∧ nrm r = [])) : nrm (x :: r) = x :: nrm r := by rw [nrm, if_neg h]
theorem nrm_len : ∀ l : List Nat, (nrm l).length ≤ l.length
  | [] => by simp [nrm]
  | x :: r => by
    have := nrm_len r
    by_cases h : x = 0 ∧ nrm r = []
    · simp [nrm, h]
    · rw [nrm_cons h]; simp; exact this
theorem Ws.nrm : ∀ {l : List Nat}, Ws l → Ws (nrm l)
  | [], h => h
  | x :: r, h => by
    by_cases g : x = 0 ∧ Go.Proofs.Ytclggnaljijjoaa.nrm r = []
    · rw [Go.Proofs.Ytclggnaljijjoaa.nrm, if_pos g]; exact Ws.nil
    · rw [nrm_cons g]; exact Ws.cons h.head (Ws.nrm h.tail)
theorem nrm_take : ∀ l : List Nat, nrm l = l.take (nrm l).length
  | [] => rfl
  | x :: r => by
    by_cases h : x = 0 ∧ nrm r = []
    · simp [nrm, h]
    · rw [nrm_cons h]; simp; exact nrm_take r
theorem nrm_nrm : ∀ l : List Nat, nrm (nrm l) = nrm l
  | [] => rfl
  | x :: r => by
    by_cases h : x = 0 ∧ nrm r = []
    · simp [nrm, h]
    · rw [nrm_cons h, nrm, nrm_nrm r, if_neg h]
theorem val_nrm : ∀ l : List Nat, val (nrm l) = val l
  | [] => rfl
  | x :: r => by
    have := val_nrm r
    by_cases h : x = 0 ∧ nrm r = []
    · rw [h.2] at this
      rw [nrm, if_pos h]
      simp only [val] at this ⊢
      omega
    · rw [nrm_cons h]; simp only [val, this]
theorem nrm_val_zero : ∀ {l : List Nat}, val l = 0 → nrm l = []
  | [], _ => rfl
  | x :: r, h => by
    simp only [val] at h
    have h1 : x = 0 := by omega
    have h2 : val r = 0 := by omega
    rw [h1, nrm_zero (nrm_val_zero h2)]
theorem val_inj : ∀ {l m : List Nat}, Ws l → Ws m → val l = val m → nrm l = nrm m
  | [], m, _, _, h => by rw [nrm_nil, nrm_val_zero (by rw [← h]; rfl)]
  | x :: r, [], _, _, h => by rw [nrm_nil, nrm_val_zero (by rw [h]; rfl)]
  | x :: r, y :: s, hl, hm, h => by
    have hx := hl.head
    have hy := hm.head
    simp only [val] at h
    have h1 : x = y := by omega
    have h2 : val r = val s := by omega
    have := val_inj hl.tail hm.tail h2
    simp only [nrm, h1, this]
theorem nrm_eq_nil {l : List Nat} (h : nrm l = []) : val l = 0 := by rw [← val_nrm, h]; rfl
theorem val_append : ∀ l m : List Nat, val (l ++ m) = val l + 4294967296 ^ l.length * val m
  | [], m => by simp [val]
  | x :: r, m => by
    rw [List.cons_append, val, val_append r m, val, List.length_cons, Nat.pow_succ, Nat.mul_add, Nat.mul_comm (4294967296 ^ r.length) 4294967296, Nat.mul_assoc]
    omega
theorem val_zeros (n : Nat) : val (List.replicate n 0) = 0 := by
  induction n with
  | zero => rfl
  | succ n ih => rw [List.replicate_succ, val, ih]
theorem val_lt : ∀ {l : List Nat}, Ws l → val l < 4294967296 ^ l.length
  | [], _ => by simp [val]
  | x :: r, h => by
    have h1 := h.head
    have h2 := val_lt h.tail
    rw [val, List.length_cons, Nat.pow_succ]
    have : 4294967296 * (val r + 1) ≤ 4294967296 ^ r.length * 4294967296 := by rw [Nat.mul_comm]; exact Nat.mul_le_mul_right _ h2
    omega
/-- How a loop from the end on finds the end. -/
theorem nrm_of : ∀ (l : List Nat) (n : Nat), n ≤ l.length → (∀ k, n ≤ k → k < l.length → l.getD k 0 = 0) → (n = 0 ∨ l.getD (n - 1) 0 ≠ 0) → nrm l = l.take n
  | [], n, hn, _, _ => by simp [nrm]
  | x :: r, 0, _, h0, _ => by
    have hx := h0 0 (by omega) (by simp)
    have hr := nrm_of r 0 (by omega) (fun k hk hl => by have := h0 (k + 1) (by omega) (by simp; omega); simpa using this) (.inl rfl)
    simp only [List.take_zero] at hr ⊢
    have hx' : x = 0 := by simpa using hx
    rw [hx', nrm_zero hr]
  | x :: r, n + 1, hn, h0, hl => by
    have hn' : n ≤ r.length := by simpa using hn
    rcases hl with hl | hl
    · omega
    · cases n with
      | zero =>
        have hx : x ≠ 0 := by simpa using hl
        have hr := nrm_of r 0 (by omega) (fun k hk hl => by have := h0 (k + 1) (by omega) (by simp; omega); simpa using this) (.inl rfl)
        rw [nrm_cons (fun h => hx h.1), hr]
        rfl
      | succ n =>
        have hr := nrm_of r (n + 1) hn' (fun k hk hl => by have := h0 (k + 1) (by omega) (by simp; omega); simpa using this) (.inr (by simpa using hl))
        have hne : nrm r ≠ [] := by
          rw [hr]
          intro e
          have := congrArg List.length e
          rw [List.length_take, List.length_nil] at this
          have := hn'
          omega
        rw [nrm_cons (fun h => hne h.2), hr]
        rfl
/-- What is below the end of a natural is not all. -/
theorem nrm_last {l : List Nat} (h : nrm l ≠ []) : l.getD ((nrm l).length - 1) 0 ≠ 0 := by
  induction l with
  | nil => simp [nrm] at h
  | cons x r ih =>
    by_cases g : x = 0 ∧ nrm r = []
    · rw [nrm, if_pos g] at h; exact absurd rfl h
    · rw [nrm_cons g]
      by_cases e : nrm r = []
      · rw [e]; simp; exact fun hx => g ⟨hx, e⟩
      · have := ih e
        have hp : 0 < (nrm r).length := List.length_pos_iff.2 e
        obtain ⟨k, hk⟩ : ∃ k, (nrm r).length = k + 1 := ⟨(nrm r).length - 1, by omega⟩
        rw [hk] at this
        simp [hk]
        simpa using this
theorem val_ge {l : List Nat} (h : nrm l ≠ []) : 4294967296 ^ ((nrm l).length - 1) ≤ val l := by
  induction l with
  | nil => simp [nrm] at h
  | cons x r ih =>
    by_cases g : x = 0 ∧ nrm r = []
    · rw [nrm, if_pos g] at h; exact absurd rfl h
    · rw [nrm_cons g, val]
      by_cases e : nrm r = []
      · rw [e]; simp
        have : x ≠ 0 := fun hx => g ⟨hx, e⟩
        omega
      · have := ih e
        have hp : 0 < (nrm r).length := List.length_pos_iff.2 e
        obtain ⟨k, hk⟩ : ∃ k, (nrm r).length = k + 1 := ⟨(nrm r).length - 1, by omega⟩
        rw [hk] at this
        simp only [List.length_cons, hk, Nat.add_sub_cancel] at this ⊢
        rw [Nat.pow_succ, Nat.mul_comm]
        have h3 : 4294967296 * 4294967296 ^ k ≤ 4294967296 * val r := Nat.mul_le_mul_left _ this
        omega
end Go.Proofs.Ytclggnaljijjoaa
