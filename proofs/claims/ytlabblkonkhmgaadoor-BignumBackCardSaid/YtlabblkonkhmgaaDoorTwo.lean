/-
  What a natural and an errno are, put as a list and a code.
-/
import Derived.Test.YtlabblkonkhmgaaDoorLong
namespace Go.Proofs.YtlabblkonkhmgaaDoor
open Go.RowKit
/-- A call that tells the n words L, and a code. -/
theorem lng_le {v : Nat} (h : lngB v = false) : (wds v).length ≤ 1024 := by
  unfold lngB at h
  have h1 := of_decide_eq_false h
  omega
def Two (L : List Nat) (n k : Nat) (w : World) (e : Ending) (w' : World) : Prop := ∃ A c, e = .returned (.tuple #[.slice A n c, .int .i64 (k : Nat)]) ∧ (n ≤ c ∧ RW w' w'.heap.size A L) ∧ Below w.heap.size w w'
def natL (v : Nat) : List Nat := if lngB v = true then [] else wds v
def natK (v : Nat) : Nat := if lngB v = true then 3 else 0
theorem ErrPost.two {k : Nat} {w w' : World} {e : Ending} (h : ErrPost k w e w') : Two [] 0 k w e w' := ⟨none, 0, h.1, ⟨Nat.le_refl _, RW.nil _ _ _⟩, h.2⟩
theorem NatPost.two {v : Nat} {w w' : World} {e : Ending} (h : NatPost v w e w') : Two (natL v) (natL v).length (natK v) w e w' := by
  obtain ⟨A, n, c, k, h1, h2, h3⟩ := h
  unfold natL natK
  by_cases hl : lngB v = true
  · rw [if_pos hl] at h2
    obtain ⟨rfl, rfl, rfl, rfl⟩ := h2
    rw [if_pos hl, if_pos hl]
    exact ⟨none, 0, h1, ⟨Nat.le_refl _, RW.nil _ _ _⟩, h3⟩
  · rw [if_neg hl] at h2
    obtain ⟨rfl, h4, rfl, h5⟩ := h2
    rw [if_neg hl, if_neg hl]
    exact ⟨A, c, h1, ⟨h4, h5⟩, h3⟩
theorem natL_len (v : Nat) : (natL v).length ≤ 1024 := by
  unfold natL
  split
  · simp
  · next h => exact lng_le (by simpa using h)
end Go.Proofs.YtlabblkonkhmgaaDoor
