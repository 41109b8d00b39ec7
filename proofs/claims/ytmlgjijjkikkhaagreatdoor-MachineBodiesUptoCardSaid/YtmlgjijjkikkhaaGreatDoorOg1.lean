/-
  An object of a heap, by its number.
-/
import Derived.Test.YtmlgjijjkikkhaaGreatDoorOf1
namespace Go.Proofs.YtmlgjijjkikkhaaGreatDoor
open Go.RowKit
attribute [local go_sem] stF neqM eqS
theorem Hp.at' {hb room used : Nat} {l : List Nat} {W : World} (h : Hp hb room used l W) {i t : Nat} (hi : l[i]? = some t) : ∃ b c, W.cell? ⟨hb, 1, none⟩ = some (.slice (some ⟨b, 0, none⟩) l.length c) ∧ l.length ≤ c ∧ W.cell? ⟨b, i, none⟩ = some (.pointer (some ⟨t, 0, none⟩)) := by
  obtain ⟨⟨v, h1, h2⟩, _⟩ := h
  have hil : i < l.length := (List.getElem?_eq_some_iff.1 hi).1
  rcases h2.2 with ⟨_, h0⟩ | ⟨b, cap, cur, hv, _, hg, hc, _, _, ht⟩
  · simp at h0; rw [h0] at hil; simp at hil
  · refine ⟨b, cap, ?_, hc, ?_⟩
    · rw [cell_of_row W hb 1 _ _ _ h1, hv]; rfl
    · rw [cell_of_row W b i _ _ _ hg]
      have e : (cur.toList.take (l.length * 1))[i]? = some (.pointer (some ⟨t, 0, none⟩)) := by rw [ht]; simp [hi]
      rw [List.getElem?_take_of_lt (by omega)] at e
      simpa using e
set_option maxRecDepth 100000 in
set_option maxHeartbeats 2000000 in
theorem find_hp {hb room used : Nat} {l : List Nat} {i t : Nat} {w : World} (h : Hp hb room used l w) (hi : l[i]? = some t) : Calls Tryz.prog 106 #[.pointer (some ⟨hb, 0, none⟩), .int .i64 i] w fun e w' => e = .returned (.tuple #[.pointer (some ⟨t, 0, none⟩), .int .i64 0]) ∧ w = w' := by
  obtain ⟨c0, -, -, -⟩ := h.cells
  obtain ⟨b, c, c1, hc, cb⟩ := h.at' hi
  have hil : i < l.length := (List.getElem?_eq_some_iff.1 hi).1
  have hcI : (l.length : Int) ≤ c := by omega
  have hltI : (i : Int) < l.length := by omega
  have q1 : decide ((i : Int) < 0) = false := by simp
  have q2 : decide ((l.length : Int) ≤ i) = false := by simp; omega
  have hmx : (l.length : Int) ≤ 16777216 := by have := h.le; omega
  clear h hi hil hc
  go_enter Tryz.func106, Tryz.ntmps106
  go_wp2
  go_ret2
  exact ⟨rfl, rfl⟩
set_option maxRecDepth 100000 in
set_option maxHeartbeats 2000000 in
theorem find_no {hb room used : Nat} {l : List Nat} {i : Int} {w : World} (h : Hp hb room used l w) (hi : i < 0 ∨ (l.length : Int) ≤ i) : Calls Tryz.prog 106 #[.pointer (some ⟨hb, 0, none⟩), .int .i64 i] w fun e w' => e = .returned (.tuple #[.pointer none, .int .i64 4]) ∧ w = w' := by
  obtain ⟨c0, ⟨A, c, c1⟩, -, -⟩ := h.cells
  by_cases h0 : i < 0
  · have q1 : decide (i < 0) = true := by simpa using h0
    clear h hi h0
    go_enter Tryz.func106, Tryz.ntmps106
    go_wp2
    go_ret2
    exact ⟨rfl, rfl⟩
  · have q1 : decide (i < 0) = false := by simpa using h0
    have q2 : decide ((l.length : Int) ≤ i) = true := by simp; omega
    clear h hi h0
    go_enter Tryz.func106, Tryz.ntmps106
    go_wp2
    go_ret2
    exact ⟨rfl, rfl⟩
set_option maxRecDepth 100000 in
set_option maxHeartbeats 2000000 in
theorem object_hp {hb room used : Nat} {l : List Nat} {i t : Nat} {x : Ob} {w : World} (h : Hp hb room used l w) (hi : l[i]? = some t) (hx : HobE w t x (.slice none 0 0) (.slice none 0 0)) :
    Calls Tryz.prog 78 #[.pointer (some ⟨hb, 0, none⟩), .int .i64 i] w fun e w' => (∃ q, e = .returned (.tuple #[.agg (celO x (.slice (some ⟨q, 0, none⟩) 0 0) (.slice none 0 0)), .int .i64 0])) ∧ Below w.heap.size w w' := by
  have C1 := Lib.hid (fun X => find_hp (h.on (below_a1 w X)) hi)
  have C2 := Lib.hid (fun X => told_e (hx.on (below_a1 w X)))
  have HB := Lib.hid (fun X => below_a1 w X)
  clear h hi hx
  go_enter Tryz.func78, Tryz.ntmps78
  go_wp2_with fail
  refine (C1.out _).mono ?_
  rintro e w' ⟨rfl, rfl⟩
  clear C1
  go_wp2_with fail
  refine (C2.out _).mono ?_
  rintro e w3 ⟨⟨q, rfl⟩, b3⟩
  have HR := Lib.hid (show w3.heap[w.heap.size]? = some (.cells zO 70 (0, 0)) from (b3.block _ (by simp)).trans (new1 w _ _))
  have HB3 := Lib.hid ((HB.out _).trans (b3.mono (by simp)))
  clear b3 C2 HB
  go_wp2_with (refine wpList_store_row rfl 70 _ _ rfl w.heap.size _ rfl rfl 70 _ HR.out (by kernel_rfl) rfl (by kernel_rfl) ?_)
  exact cR2 rfl rfl (run_loadVar_row _ w.heap.size 70 70 (celO x (.slice (some ⟨q, 0, none⟩) 0 0) (.slice none 0 0)) (0, 0) _ (setRow_heap _ _ _ _ _ _ HR.out) Tryz.underlying70 rfl (by kernel_rfl)) rfl ⟨⟨q, rfl⟩, below_setRowK HB3.out (Nat.le_refl _) _⟩
end Go.Proofs.YtmlgjijjkikkhaaGreatDoor
