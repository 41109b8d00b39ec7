/-
  A heap, made: room, cells, one more object without properties.
-/
import Derived.Test.YtmlgjijjkikkhaaGreatDoorO6
import Derived.Laws.AppendOwn
import Derived.Deep.OwnRows
namespace Go.Proofs.YtmlgjijjkikkhaaGreatDoor
open Go.RowKit
attribute [local go_sem] stF neqM eqS
abbrev celHp (v : Value) (room used : Int) : Array Value := #[.bool true, v, .int .i64 room, .int .i64 used]
set_option maxRecDepth 100000 in
set_option maxHeartbeats 2000000 in
theorem new_ok (n : Int) (w : World) (h0 : 0 ≤ n) (h1 : n ≤ 16777216) : Calls Tryz.prog 32 #[.int .i64 n] w fun e w' => e = .returned (.tuple #[.pointer (some ⟨w.heap.size, 0, none⟩), .int .i64 0]) ∧ w' = w.alloc (.cells (celHp (.slice none 0 0) n 0) 107) := by
  have q1 : decide (n < 0) = false := by simpa using h0
  have q2 : decide (16777216 < n) = false := by simpa using h1
  clear h0 h1
  go_enter Tryz.func32, Tryz.ntmps32
  go_wp2
  go_ret2
  exact ⟨rfl, rfl⟩
set_option maxRecDepth 100000 in
set_option maxHeartbeats 2000000 in
theorem new_no (n : Int) (w : World) (h : n < 0 ∨ 16777216 < n) : Calls Tryz.prog 32 #[.int .i64 n] w fun e w' => e = .returned (.tuple #[.pointer none, .int .i64 1]) ∧ w = w' := by
  by_cases h0 : n < 0
  · have q1 : decide (n < 0) = true := by simpa using h0
    clear h h0
    go_enter Tryz.func32, Tryz.ntmps32
    go_wp2
    go_ret2
    exact ⟨rfl, rfl⟩
  · have q1 : decide (n < 0) = false := by simpa using h0
    have q2 : decide (16777216 < n) = true := by simp; omega
    clear h h0
    go_enter Tryz.func32, Tryz.ntmps32
    go_wp2
    go_ret2
    exact ⟨rfl, rfl⟩
/-- A heap: its room, its used cells, its objects' blocks. -/
structure Hp (hb : Nat) (room used : Nat) (l : List Nat) (W : World) : Prop where
  h : ∃ v, W.heap[hb]? = some (.cells (celHp v room used) 107 (0, 0)) ∧ W.ownsRow (hb + 1) 116 1 v l.length (l.map fun t => .pointer (some ⟨t, 0, none⟩))
  le : used ≤ room ∧ room ≤ 16777216 ∧ l.length ≤ used
theorem Hp.lt {hb room used : Nat} {l : List Nat} {W : World} (h : Hp hb room used l W) : hb < W.heap.size := by
  obtain ⟨v, h, _⟩ := h.h
  exact (Array.getElem?_eq_some_iff.1 h).1
theorem Hp.new (n : Nat) (w : World) (h1 : n ≤ 16777216) : Hp w.heap.size n 0 [] (w.alloc (.cells (celHp (.slice none 0 0) n 0) 107)) :=
  ⟨⟨_, new1 w _ _, ⟨rfl, .inl ⟨rfl, rfl⟩⟩⟩, by omega, h1, by simp⟩
theorem Hp.on {hb room used : Nat} {l : List Nat} {W W' : World} (h : Hp hb room used l W) (b : Below W.heap.size W W') : Hp hb room used l W' := by
  obtain ⟨⟨v, h1, h2⟩, h3⟩ := h
  refine ⟨⟨v, (b.block _ (Array.getElem?_eq_some_iff.1 h1).1).trans h1, h2.kept (row := none) ⟨b.os, b.tape, b.output, b.size, fun k hk _ => b.block k hk⟩ ?_⟩, h3⟩
  cases hv : v.ownBlock <;> simp
theorem Hp.drewN {hb room used : Nat} {l : List Nat} {W : World} (h : Hp hb room used l W) (n : Nat) : Hp hb room used l (W.drewN n) := h.on (below_drewN' (Below.refl _ _) n)
/-- The objects of a list of cells. -/
theorem Hp.cells {hb room used : Nat} {l : List Nat} {W : World} (h : Hp hb room used l W) : W.cell? ⟨hb, 0, none⟩ = some (.bool true) ∧ (∃ A c, W.cell? ⟨hb, 1, none⟩ = some (.slice A l.length c)) ∧ W.cell? ⟨hb, 2, none⟩ = some (.int .i64 room) ∧ W.cell? ⟨hb, 3, none⟩ = some (.int .i64 used) := by
  obtain ⟨⟨v, h1, h2⟩, _⟩ := h
  refine ⟨(cell_of_row W hb 0 _ _ _ h1).trans rfl, ?_, (cell_of_row W hb 2 _ _ _ h1).trans rfl, (cell_of_row W hb 3 _ _ _ h1).trans rfl⟩
  rcases h2.2 with ⟨hv, h0⟩ | ⟨b, cap, cur, hv, _⟩
  · exact ⟨none, 0, by rw [cell_of_row W hb 1 _ _ _ h1, hv]; simp at h0; rw [h0]; rfl⟩
  · exact ⟨some ⟨b, 0, none⟩, cap, by rw [cell_of_row W hb 1 _ _ _ h1, hv]; rfl⟩
set_option maxRecDepth 100000 in
set_option maxHeartbeats 2000000 in
theorem len_hp {hb room used : Nat} {l : List Nat} {w : World} (h : Hp hb room used l w) : Calls Tryz.prog 40 #[.pointer (some ⟨hb, 0, none⟩)] w fun e w' => e = .returned (.int .i64 l.length) ∧ w = w' := by
  obtain ⟨c0, ⟨A, c, c1⟩, c2, c3⟩ := h.cells
  clear h c0 c2 c3
  go_enter Tryz.func40, Tryz.ntmps40
  go_wp2
  go_ret
  exact ⟨rfl, rfl⟩
/-- What stays beside one block: all below n but it. -/
structure Ey (n x : Nat) (w w' : World) : Prop where
  os : w'.os = w.os
  tape : w'.tape = w.tape
  output : w'.output = w.output
  size : w.heap.size ≤ w'.heap.size
  block : ∀ k, k < n → k ≠ x → w'.heap[k]? = w.heap[k]?
set_option maxRecDepth 100000 in
set_option maxHeartbeats 2000000 in
theorem take_hp {hb room used : Nat} {l : List Nat} (n : Nat) {w : World} (h : Hp hb room used l w) (hn : used + n ≤ room) : Calls Tryz.prog 61 #[.pointer (some ⟨hb, 0, none⟩), .int .i64 n] w fun e w' => e = .returned (.bool true) ∧ Hp hb room (used + n) l w' ∧ Ey w.heap.size hb w w' := by
  obtain ⟨c0, -, c2, c3⟩ := h.cells
  have hle := h.le
  have q1 : decide ((n : Int) < 0) = false := by simp
  have q2 : decide ((room : Int) - used < n) = false := by simp; omega
  have q3 : wrap64 ((room : Int) - used) = (room : Int) - used := by unfold wrap64; omega
  have q4 : wrap64 ((used : Int) + n) = ((used + n : Nat) : Int) := by unfold wrap64; omega
  have f3 : ∀ k, (w.drewN k).frozen? ⟨hb, 3, none⟩ = false := fun k => by
    obtain ⟨v, h1, _⟩ := h.h
    exact frozen_of_row (w.drewN k) hb 3 _ _ h1
  have HK := Lib.hid (fun k => show Hp hb room (used + n) l ((w.drewN k).setCell ⟨hb, 3, none⟩ (.int .i64 ((used + n : Nat) : Int))) from by
    obtain ⟨v, h1, h2⟩ := h.h
    refine ⟨⟨v, (heap_setCell_same (w.drewN k) hb 3 _ 107 _ h1).trans rfl, World.ownsRow.kept (row := some hb) (w := w.drewN k) h2 ⟨rfl, rfl, rfl, by simp [World.setCell], fun j _ hj => Below.heap_setCell _ _ _ _ (fun e => hj (by simp [e]))⟩ ?_⟩, by omega⟩
    exact Or.inr (fun e => by have := (h2.lt hb e).1; omega))
  have HE := Lib.hid (fun k v => show Ey w.heap.size hb w ((w.drewN k).setCell ⟨hb, 3, none⟩ v) from ⟨rfl, rfl, rfl, by simp [World.setCell], fun j _ hj => Below.heap_setCell (w.drewN k) _ _ _ hj⟩)
  clear h hle hn
  go_enter Tryz.func61, Tryz.ntmps61
  go_wp2
  go_quiet (skip)
  go_wp2
  go_ret
  exact ⟨rfl, by rw [← Int.natCast_add]; exact HK.out _, HE.out _ _⟩
/-- What of a kept object counts: its block, its data. -/
theorem HobE.ey {W W' : World} {hb t : Nat} {x : Ob} {sP sB : Value} (h : HobE W t x sP sB) (b : Ey W.heap.size hb W W') (hn : t ≠ hb) : HobE W' t x sP sB := by
  obtain ⟨q, h⟩ := h
  exact ⟨q, (b.block _ (Array.getElem?_eq_some_iff.1 h).1 hn).trans h⟩
end Go.Proofs.YtmlgjijjkikkhaaGreatDoor
