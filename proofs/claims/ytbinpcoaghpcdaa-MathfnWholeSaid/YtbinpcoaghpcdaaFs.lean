/-
  Slices of floats in memory; own.
-/
import Derived.Test.YtbinpcoaghpcdaaRA
import Derived.Test.YtbinpcoaghpcdaaArgs
namespace Go.Proofs.Ytbinpcoaghpcdaa
open Go.ChangeShapes Go.WideShapes Go.ChangeAt Go.RowKit
def Fs (l : List Nat) : Prop := ∀ u ∈ l, u < 18446744073709551616
theorem Fs.nil : Fs [] := fun u h => by simp at h
/-- The cells from A on read as the floats l, in a block below B. -/
def RF (w : World) (B : Nat) (A : Option Addr) (l : List Nat) : Prop :=
  Fs l ∧ (0 < l.length → ∃ b off, A = some ⟨b, off, none⟩ ∧ b < B ∧ ∀ k u : Nat, l[k]? = some u → w.cell? ⟨b, off + k, none⟩ = some (.float .f64 u))
theorem RF.nil (w : World) (B : Nat) (A : Option Addr) : RF w B A [] := ⟨Fs.nil, fun h => by simp at h⟩
theorem RF.step {w w' : World} {A : Option Addr} {l : List Nat} (h : RF w w.heap.size A l) (hb : Below w.heap.size w w') : RF w' w'.heap.size A l := ⟨h.1, fun hl => by
  obtain ⟨b, off, e, h1, h2⟩ := h.2 hl
  exact ⟨b, off, e, Nat.lt_of_lt_of_le h1 hb.size, fun k u hu => (hb.cell (p := ⟨b, off + k, none⟩) h1).trans (h2 k u hu)⟩⟩
/-- A row of the call's own that holds the words l. -/
abbrev OwnFl (B : Nat) (l : List Nat) (v : Value) (w : World) : Prop := w.ownsRow B 22 1 v l.length (l.map fun u => Value.float .f64 u)
theorem OwnFl.nil (B : Nat) (w : World) : OwnFl B [] (.slice none 0 0) w := World.ownsRow_nil _ _ _ _
theorem OwnFl.cap {B : Nat} {l : List Nat} {A : Option Addr} {n c : Nat} {w : World} (h : OwnFl B l (.slice A n c) w) : n = l.length ∧ n ≤ c := by
  rcases h.2 with ⟨e, h0⟩ | ⟨g, cap, cur, e, hB, hg, hcap, hmax, hcur, htk⟩
  · cases e; exact ⟨by omega, Nat.le_refl _⟩
  · cases e; exact ⟨rfl, hcap⟩
end Go.Proofs.Ytbinpcoaghpcdaa
