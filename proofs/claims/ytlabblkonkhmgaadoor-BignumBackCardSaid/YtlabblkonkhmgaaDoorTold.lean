/-
  A call that tells words in a slice.
-/
import Derived.Test.YtlabblkonkhmgaaDoorWord
namespace Go.Proofs.YtlabblkonkhmgaaDoor
open Go.RowKit
/-- A call that tells n words l in a slice. -/
def Told (l : List Nat) (n : Nat) (w : World) (e : Ending) (w' : World) : Prop := ∃ A c, e = .returned (.slice A n c) ∧ (n ≤ c ∧ RW w' w'.heap.size A l) ∧ Below w.heap.size w w'
theorem SlPost.told {l : List Nat} {n : Nat} {w : World} {e : Ending} {w' : World} (h : SlPost l w e w') (hn : l.length = n) : Told l n w e w' := by
  obtain ⟨v, rfl, ⟨A, c, rfl, hc, hr⟩, hb⟩ := h
  rw [hn] at hc ⊢
  exact ⟨A, c, rfl, ⟨hc, hr⟩, hb⟩
theorem ownT (A : Option Addr) (n c : Nat) (l : List Nat) (w : World) (hn : l.length = n) (hm : n ≤ 35184372088832) (h : RW w w.heap.size A l) :
    Calls Tryd.prog 7 #[.slice A n c] w (Told l n w) := (own_any A n c l w hn hm h).mono fun _ _ x => (SlPost.of h.1 x).told hn
theorem normT (A : Option Addr) (n c : Nat) (l : List Nat) (m : Nat) (w : World) (hn : l.length = n) (hc : n ≤ c) (hm : n ≤ 35184372088832) (h : RW w w.heap.size A l) (hm2 : (nrm l).length = m) :
    Calls Tryd.prog 21 #[.slice A n c] w (Told (nrm l) m w) := (norm_any A n c l w hn hc hm h).mono fun _ _ x => (SlPost.of h.1.nrm x).told hm2
theorem rnormT (A : Option Addr) (n c : Nat) (l : List Nat) (m : Nat) (w : World) (hn : l.length = n) (hc : n ≤ c) (hm : n ≤ 35184372088832) (h : RW w w.heap.size A l) (hm2 : (nrm l).length = m) :
    Calls Tryd.prog 18 #[.slice A n c] w (Told (nrm l) m w) := (rnorm_any A n c l w.heap.size w hn hc hm h).mono fun _ _ x => (SlPost.of h.1.nrm x).told hm2
end Go.Proofs.YtlabblkonkhmgaaDoor
