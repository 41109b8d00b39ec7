/-
  Plain lemmas on looking for a text from the end: the text and what is looked through stand reversed. No program in it.
-/
import Derived.Test.YthnkidncjkhndaaDoorKmpPure
namespace Go.Proofs.YthnkidncjkhndaaDoor
theorem rev_step (s : List Nat) (E i : Nat) (h : i < E) (hE : E ≤ s.length) : ((s.take E).drop i).reverse = ((s.take E).drop (i + 1)).reverse ++ [s[i]'(by omega)] := by
  have h2 : i < (s.take E).length := by rw [List.length_take]; omega
  rw [List.drop_eq_getElem_cons h2, List.reverse_cons, List.getElem_take]
theorem rev_St (s t : List Nat) (E i : Nat) (hE : E ≤ s.length) (hi : i ≤ E) (h : t.reverse <:+ ((s.take E).drop i).reverse) : i + t.length ≤ E ∧ St s t i := by
  rw [List.reverse_suffix] at h
  have hl := h.length_le
  rw [List.length_drop, List.length_take] at hl
  refine ⟨by omega, by omega, ?_⟩
  have h3 := List.prefix_iff_eq_take.1 h
  rw [List.drop_take, List.take_take, Nat.min_eq_left (by omega)] at h3
  exact h3.symm
theorem St_rev (s t : List Nat) (E i : Nat) (hi : i + t.length ≤ E) (h : St s t i) : t.reverse <:+ ((s.take E).drop i).reverse := by
  rw [List.reverse_suffix]
  have h2 := h.2
  apply List.prefix_iff_eq_take.2
  rw [List.drop_take, List.take_take, Nat.min_eq_left (by omega)]
  exact h2.symm
end Go.Proofs.YthnkidncjkhndaaDoor
