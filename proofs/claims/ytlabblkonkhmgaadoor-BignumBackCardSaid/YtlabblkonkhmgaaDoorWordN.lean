/-
  Contract of word; a word appended to a row of the call's own.
-/
import Derived.Test.YtlabblkonkhmgaaDoorLong
namespace Go.Proofs.YtlabblkonkhmgaaDoor
open Go.RowKit
theorem word_nat (A : Option Addr) (n c i : Nat) (l : List Nat) (B : Nat) (w : World) (hn : l.length = n) (hm : n ≤ 35184372088832) (h : RW w B A l) :
    Calls Tryd.prog 46 #[.slice A n c, .int .i64 i] w fun e w' => e = .returned (.int .u32 (l.getD i 0 : Nat)) ∧ w = w' := by
  by_cases hi : i < n
  · obtain ⟨b, off, rfl, _, hc⟩ := h.2 (by omega)
    have hcell := hc i _ (getD_some (by omega))
    obtain ⟨u, hu⟩ : ∃ u, l.getD i 0 = u := ⟨_, rfl⟩
    rw [hu] at hcell ⊢
    have h0 : decide ((i : Int) < 0) = false := by simp
    have h1 : decide (n ≤ i) = false := by simp; omega
    have h3 : (i : Int) < (n : Int) := by omega
    have h2 : (n : Int) ≤ 35184372088832 := by omega
    clear hn hm h hc hu hi
    go_enter Tryd.func46, Tryd.ntmps46
    go_wp2
    go_ret
    exact ⟨rfl, rfl⟩
  · have e : l.getD i 0 = 0 := getD_none (by omega)
    rw [e]
    have h0 : decide ((i : Int) < 0) = false := by simp
    have h1 : (n : Int) ≤ (i : Int) := by omega
    clear hn hm h e hi
    go_enter Tryd.func46, Tryd.ntmps46
    go_wp2
    go_ret
    exact ⟨rfl, rfl⟩
theorem word_neg (A : Option Addr) (n c : Nat) (w : World) :
    Calls Tryd.prog 46 #[.slice A n c, .int .i64 (-1)] w fun e w' => e = .returned (.int .u32 0) ∧ w = w' := by
  go_enter Tryd.func46, Tryd.ntmps46
  go_wp2
  go_ret
  exact ⟨rfl, rfl⟩
theorem OwnW.snoc {B : Nat} {L : List Nat} {u : Nat} {v : Value} {w : World} (h : w.ownsRow B 42 1 v (L.length + 1) (L.map (fun u => Value.int .u32 (u : Nat)) ++ [Value.int .u32 (u : Nat)])) : OwnW B (L ++ [u]) v w := by
  unfold OwnW
  rw [List.length_append, List.map_append]
  exact h
theorem ErrPost.from_ {k : Nat} {w w1 w' : World} {e : Ending} (hb : Below w.heap.size w w1) (h : ErrPost k w1 e w') : ErrPost k w e w' := ⟨h.1, below_le hb h.2⟩
end Go.Proofs.YtlabblkonkhmgaaDoor
