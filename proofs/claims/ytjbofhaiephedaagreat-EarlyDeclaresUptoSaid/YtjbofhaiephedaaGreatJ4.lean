/-
  A tree's levels, one by one. No program in it.
-/
import Derived.Test.YtjbofhaiephedaaGreatAta
namespace Go.Proofs.YtjbofhaiephedaaGreat
namespace Tr
variable {α : Type}
/-- The lists of the k-th level. -/
def lev (t : Tr α) : Nat → List (List (Tr α))
  | 0 => [[t]]
  | k + 1 => lower (lev t k)
/-- How many nodes the levels ahead of the k-th one have. -/
def szs (t : Tr α) : Nat → Nat
  | 0 => 0
  | k + 1 => szs t k + (lev t k).flatten.length
theorem lev_full (t : Tr α) : ∀ k, ∀ l ∈ lev t k, l ≠ []
  | 0 => by simp [lev]
  | k + 1 => by rw [lev]; exact lower_full _
theorem szs_rest (t : Tr α) : ∀ k, szs t k + sizes (lev t k).flatten = t.size
  | 0 => by simp [szs, lev, sizes]
  | k + 1 => by
    have := szs_rest t k
    rw [sizes_under] at this
    rw [szs, lev, lower_flatten]
    omega
theorem depths_lower {L : List (List (Tr α))} (hL : ∀ l ∈ L, l ≠ []) (h : L ≠ []) : depths L.flatten = depths (lower L).flatten + 1 := by
  obtain ⟨l, M, rfl⟩ := List.exists_cons_of_ne_nil h
  obtain ⟨x, r, rfl⟩ := List.exists_cons_of_ne_nil (hL l (by simp))
  rw [lower_flatten]
  simp only [List.flatten_cons, List.cons_append]
  exact depths_under _ _
theorem lev_depth (t : Tr α) : ∀ k, depths (lev t k).flatten = t.depth - k
  | 0 => by simp [lev, depths]
  | k + 1 => by
    have h := lev_depth t k
    rw [lev]
    by_cases he : lev t k = []
    · rw [he] at h ⊢
      have e0 : depths (lower ([] : List (List (Tr α)))).flatten = 0 := by simp [lower, depths]
      have e1 : depths ([] : List (List (Tr α))).flatten = 0 := by simp [depths]
      omega
    · have := depths_lower (lev_full t k) he
      omega
theorem lev_none {t : Tr α} {k : Nat} : lev t k = [] ↔ t.depth ≤ k := by
  have h := lev_depth t k
  constructor
  · intro e
    rw [e] at h
    have e1 : depths ([] : List (List (Tr α))).flatten = 0 := by simp [depths]
    omega
  · intro hk
    by_cases he : lev t k = []
    · exact he
    · have := depths_lower (lev_full t k) he
      omega
theorem szs_all (t : Tr α) : szs t t.depth = t.size := by
  have h := szs_rest t t.depth
  rw [lev_none.2 (Nat.le_refl _)] at h
  simpa [sizes] using h
theorem szs_le (t : Tr α) (k : Nat) : szs t k ≤ t.size := by have := szs_rest t k; omega
/-- All nodes, level by level. -/
def all (t : Tr α) : Nat → List (Tr α)
  | 0 => []
  | k + 1 => all t k ++ (lev t k).flatten
theorem all_len (t : Tr α) : ∀ k, (all t k).length = szs t k
  | 0 => rfl
  | k + 1 => by rw [all, szs, List.length_append, all_len t k]
mutual
/-- Does something hold of a tree and of all that is within? -/
def every (p : Tr α → Bool) : Tr α → Bool | mk a l => p (mk a l) && everyL p l
def everyL (p : Tr α → Bool) : List (Tr α) → Bool | [] => true | x :: l => every p x && everyL p l
end
theorem every_eq (p : Tr α → Bool) (t : Tr α) : every p t = (p t && everyL p t.kids) := by cases t; simp [every, kids]
theorem everyL_append (p : Tr α → Bool) (a b : List (Tr α)) : everyL p (a ++ b) = (everyL p a && everyL p b) := by
  induction a with
  | nil => simp [everyL]
  | cons x a ih => simp [everyL, ih, Bool.and_assoc]
theorem everyL_under (p : Tr α → Bool) (l : List (Tr α)) : everyL p l = (l.all p && everyL p (under l)) := by
  induction l with
  | nil => simp [everyL, under]
  | cons x l ih =>
    have h : under (x :: l) = x.kids ++ under l := by simp [under]
    rw [everyL, every_eq, ih, h, everyL_append, List.all_cons]
    ac_rfl
theorem every_rest (p : Tr α → Bool) (t : Tr α) : ∀ k, every p t = ((all t k).all p && everyL p (lev t k).flatten)
  | 0 => by simp [all, lev, everyL]
  | k + 1 => by
    rw [every_rest p t k, everyL_under, all, lev, lower_flatten, List.all_append, Bool.and_assoc]
theorem every_all (p : Tr α → Bool) (t : Tr α) : every p t = (all t t.depth).all p := by
  rw [every_rest p t t.depth, lev_none.2 (Nat.le_refl _)]
  simp [everyL]
end Tr
end Go.Proofs.YtjbofhaiephedaaGreat
