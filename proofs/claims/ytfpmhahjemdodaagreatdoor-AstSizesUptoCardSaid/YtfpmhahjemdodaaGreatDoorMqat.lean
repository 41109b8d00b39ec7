/-
  A new printer's table. The printer's Builder. The printer's Builder is written.
-/
import Derived.Test.YtfpmhahjemdodaaGreatDoorMqah
import Derived.Test.YtfpmhahjemdodaaGreatDoorMqas
import Derived.Laws.EntriesVeiled
import Derived.Lib.Builder
import Derived.Test.YtfpmhahjemdodaaGreatDoorShelf
import Derived.Lib.FrozenHead
import Derived.Lib.OthersKept
namespace Go.Proofs.YtfpmhahjemdodaaGreatDoor
open Go.RowKit Go.Shelf
attribute [local go_sem] stFl hmf
abbrev pF (g F : Nat) : Value := .func (.func F) #[.pointer (some ⟨g, 0, none⟩)] #[]
/-- What a printer's table holds so far. -/
structure TB (B : Nat) (w W : World) (g T : Nat) (f : List (Nat × Value)) : Prop where
  p : W.cell? ⟨g, 4, none⟩ = some (.slice (some ⟨T, 0, none⟩) 63 63)
  t : ∃ cs, cs.size = 63 ∧ W.heap[T]? = some (.cells cs 44 (0, 0)) ∧ ∀ e ∈ f, cs[e.1]? = some e.2
  ne : g ≠ T
  b : Below B w W
  le : B ≤ T
theorem TB.cell {B : Nat} {w W : World} {g T : Nat} {f : List (Nat × Value)} (h : TB B w W g T f) {k : Nat} (hk : k < 63) : ∃ x, W.cell? ⟨T, k, none⟩ = some x ∧ W.frozen? ⟨T, k, none⟩ = false := by
  obtain ⟨cs, hc, ht, -⟩ := h.t
  exact ⟨_, (cell_of_row W T k _ _ _ ht).trans (Array.getElem?_eq_getElem (by omega)), frozen_of_row W T k _ _ ht⟩
theorem TB.set {B : Nat} {w W : World} {g T : Nat} {f f' : List (Nat × Value)} (h : TB B w W g T f) {k : Nat} {v : Value} (hf : ∀ cs : Array Value, cs.size = 63 → (∀ e ∈ f, cs[e.1]? = some e.2) → ∀ e ∈ f', (cs.setIfInBounds k v)[e.1]? = some e.2) : TB B w (W.setCell ⟨T, k, none⟩ v) g T f' := by
  obtain ⟨cs, hc, ht, hf0⟩ := h.t
  refine ⟨?_, ⟨cs.setIfInBounds k v, by simp [hc], heap_setCell_same W T k cs 44 v ht, hf cs hc hf0⟩, h.ne, ?_, h.le⟩
  · rw [← h.p]
    unfold World.cell?
    rw [show (W.setCell ⟨T, k, none⟩ v).heap[(⟨g, 4, none⟩ : Addr).block]? = W.heap[(⟨g, 4, none⟩ : Addr).block]? from Below.heap_setCell _ _ _ _ h.ne]
  · exact ⟨h.b.os, h.b.tape, h.b.output, by have := h.b.size; simp [World.setCell]; exact this, fun j hj => (Below.heap_setCell _ _ _ _ (by have := h.le; show j ≠ T; omega)).trans (h.b.block j hj)⟩
theorem TB.put {B : Nat} {w W : World} {g T : Nat} {f : List (Nat × Value)} (h : TB B w W g T f) {k : Nat} {v : Value} (hk : k < 63) (hn : (f.map (·.1)).all (· != k) = true) : TB B w (W.setCell ⟨T, k, none⟩ v) g T ((k, v) :: f) :=
  h.set fun cs hc hf e he => by
    rcases List.mem_cons.1 he with rfl | he
    · simp [hc, hk]
    · have h1 : e.1 ≠ k := by
        have := List.all_eq_true.1 hn e.1 (List.mem_map_of_mem he)
        simpa using this
      rw [Array.getElem?_setIfInBounds_ne (Ne.symm h1)]
      exact hf e he
theorem TB.skip {B : Nat} {w W : World} {g T : Nat} {f : List (Nat × Value)} (h : TB B w W g T f) {k : Nat} {v : Value} (_hk : k < 63) (hn : (f.map (·.1)).all (· != k) = true) : TB B w (W.setCell ⟨T, k, none⟩ v) g T f :=
  h.set fun cs hc hf e he => by
    have h1 : e.1 ≠ k := by
      have := List.all_eq_true.1 hn e.1 (List.mem_map_of_mem he)
      simpa using this
    rw [Array.getElem?_setIfInBounds_ne (Ne.symm h1)]
    exact hf e he
set_option maxRecDepth 100000 in
set_option maxHeartbeats 4000000 in
theorem findE_any (B g T : Nat) (w W0 : World) (h : TB B w W0 g T []) :
    Calls Tryz.prog 26 #[.pointer (some ⟨g, 0, none⟩)] W0 fun e w' => e = .returned (.tuple #[]) ∧ TB B w w' g T [(17, pF g 53), (5, pF g 41), (2, pF g 38)] := by
  have H := Lib.hid h
  clear h
  go_enter Tryz.func26, Tryz.ntmps26
  obtain ⟨x, c, fz⟩ := H.out.cell (k := 1) (by decide)
  have p := H.out.p
  go_upto_region 1 with fail
  obtain ⟨W1, hW⟩ : ∃ W, World.setCell W0 ⟨T, 1, none⟩ (pF g 37) = W := ⟨_, rfl⟩
  have H := Lib.hid (H.out.skip (v := pF g 37) (k := 1) (by decide) (by rfl))
  unfold pF at hW
  rw [hW] 
  unfold pF at H
  rw [hW] at H
  clear hW c fz x p
  obtain ⟨x, c, fz⟩ := H.out.cell (k := 2) (by decide)
  have p := H.out.p
  go_upto_region 2 with fail
  obtain ⟨W2, hW⟩ : ∃ W, World.setCell W1 ⟨T, 2, none⟩ (pF g 38) = W := ⟨_, rfl⟩
  have H := Lib.hid (H.out.put (v := pF g 38) (k := 2) (by decide) (by rfl))
  unfold pF at hW
  rw [hW] 
  unfold pF at H
  rw [hW] at H
  clear hW c fz x p
  obtain ⟨x, c, fz⟩ := H.out.cell (k := 3) (by decide)
  have p := H.out.p
  go_upto_region 3 with fail
  obtain ⟨W3, hW⟩ : ∃ W, World.setCell W2 ⟨T, 3, none⟩ (pF g 39) = W := ⟨_, rfl⟩
  have H := Lib.hid (H.out.skip (v := pF g 39) (k := 3) (by decide) (by rfl))
  unfold pF at hW
  rw [hW] 
  unfold pF at H
  rw [hW] at H
  clear hW c fz x p
  obtain ⟨x, c, fz⟩ := H.out.cell (k := 4) (by decide)
  have p := H.out.p
  go_upto_region 4 with fail
  obtain ⟨W4, hW⟩ : ∃ W, World.setCell W3 ⟨T, 4, none⟩ (pF g 40) = W := ⟨_, rfl⟩
  have H := Lib.hid (H.out.skip (v := pF g 40) (k := 4) (by decide) (by rfl))
  unfold pF at hW
  rw [hW] 
  unfold pF at H
  rw [hW] at H
  clear hW c fz x p
  obtain ⟨x, c, fz⟩ := H.out.cell (k := 5) (by decide)
  have p := H.out.p
  go_upto_region 5 with fail
  obtain ⟨W5, hW⟩ : ∃ W, World.setCell W4 ⟨T, 5, none⟩ (pF g 41) = W := ⟨_, rfl⟩
  have H := Lib.hid (H.out.put (v := pF g 41) (k := 5) (by decide) (by rfl))
  unfold pF at hW
  rw [hW] 
  unfold pF at H
  rw [hW] at H
  clear hW c fz x p
  obtain ⟨x, c, fz⟩ := H.out.cell (k := 6) (by decide)
  have p := H.out.p
  go_upto_region 6 with fail
  obtain ⟨W6, hW⟩ : ∃ W, World.setCell W5 ⟨T, 6, none⟩ (pF g 42) = W := ⟨_, rfl⟩
  have H := Lib.hid (H.out.skip (v := pF g 42) (k := 6) (by decide) (by rfl))
  unfold pF at hW
  rw [hW] 
  unfold pF at H
  rw [hW] at H
  clear hW c fz x p
  obtain ⟨x, c, fz⟩ := H.out.cell (k := 7) (by decide)
  have p := H.out.p
  go_upto_region 7 with fail
  obtain ⟨W7, hW⟩ : ∃ W, World.setCell W6 ⟨T, 7, none⟩ (pF g 43) = W := ⟨_, rfl⟩
  have H := Lib.hid (H.out.skip (v := pF g 43) (k := 7) (by decide) (by rfl))
  unfold pF at hW
  rw [hW] 
  unfold pF at H
  rw [hW] at H
  clear hW c fz x p
  obtain ⟨x, c, fz⟩ := H.out.cell (k := 8) (by decide)
  have p := H.out.p
  go_upto_region 8 with fail
  obtain ⟨W8, hW⟩ : ∃ W, World.setCell W7 ⟨T, 8, none⟩ (pF g 44) = W := ⟨_, rfl⟩
  have H := Lib.hid (H.out.skip (v := pF g 44) (k := 8) (by decide) (by rfl))
  unfold pF at hW
  rw [hW] 
  unfold pF at H
  rw [hW] at H
  clear hW c fz x p
  obtain ⟨x, c, fz⟩ := H.out.cell (k := 9) (by decide)
  have p := H.out.p
  go_upto_region 9 with fail
  obtain ⟨W9, hW⟩ : ∃ W, World.setCell W8 ⟨T, 9, none⟩ (pF g 45) = W := ⟨_, rfl⟩
  have H := Lib.hid (H.out.skip (v := pF g 45) (k := 9) (by decide) (by rfl))
  unfold pF at hW
  rw [hW] 
  unfold pF at H
  rw [hW] at H
  clear hW c fz x p
  obtain ⟨x, c, fz⟩ := H.out.cell (k := 10) (by decide)
  have p := H.out.p
  go_upto_region 10 with fail
  obtain ⟨W10, hW⟩ : ∃ W, World.setCell W9 ⟨T, 10, none⟩ (pF g 46) = W := ⟨_, rfl⟩
  have H := Lib.hid (H.out.skip (v := pF g 46) (k := 10) (by decide) (by rfl))
  unfold pF at hW
  rw [hW] 
  unfold pF at H
  rw [hW] at H
  clear hW c fz x p
  obtain ⟨x, c, fz⟩ := H.out.cell (k := 11) (by decide)
  have p := H.out.p
  go_upto_region 11 with fail
  obtain ⟨W11, hW⟩ : ∃ W, World.setCell W10 ⟨T, 11, none⟩ (pF g 47) = W := ⟨_, rfl⟩
  have H := Lib.hid (H.out.skip (v := pF g 47) (k := 11) (by decide) (by rfl))
  unfold pF at hW
  rw [hW] 
  unfold pF at H
  rw [hW] at H
  clear hW c fz x p
  obtain ⟨x, c, fz⟩ := H.out.cell (k := 12) (by decide)
  have p := H.out.p
  go_upto_region 12 with fail
  obtain ⟨W12, hW⟩ : ∃ W, World.setCell W11 ⟨T, 12, none⟩ (pF g 48) = W := ⟨_, rfl⟩
  have H := Lib.hid (H.out.skip (v := pF g 48) (k := 12) (by decide) (by rfl))
  unfold pF at hW
  rw [hW] 
  unfold pF at H
  rw [hW] at H
  clear hW c fz x p
  obtain ⟨x, c, fz⟩ := H.out.cell (k := 13) (by decide)
  have p := H.out.p
  go_upto_region 13 with fail
  obtain ⟨W13, hW⟩ : ∃ W, World.setCell W12 ⟨T, 13, none⟩ (pF g 49) = W := ⟨_, rfl⟩
  have H := Lib.hid (H.out.skip (v := pF g 49) (k := 13) (by decide) (by rfl))
  unfold pF at hW
  rw [hW] 
  unfold pF at H
  rw [hW] at H
  clear hW c fz x p
  obtain ⟨x, c, fz⟩ := H.out.cell (k := 14) (by decide)
  have p := H.out.p
  go_upto_region 14 with fail
  obtain ⟨W14, hW⟩ : ∃ W, World.setCell W13 ⟨T, 14, none⟩ (pF g 50) = W := ⟨_, rfl⟩
  have H := Lib.hid (H.out.skip (v := pF g 50) (k := 14) (by decide) (by rfl))
  unfold pF at hW
  rw [hW] 
  unfold pF at H
  rw [hW] at H
  clear hW c fz x p
  obtain ⟨x, c, fz⟩ := H.out.cell (k := 15) (by decide)
  have p := H.out.p
  go_upto_region 15 with fail
  obtain ⟨W15, hW⟩ : ∃ W, World.setCell W14 ⟨T, 15, none⟩ (pF g 51) = W := ⟨_, rfl⟩
  have H := Lib.hid (H.out.skip (v := pF g 51) (k := 15) (by decide) (by rfl))
  unfold pF at hW
  rw [hW] 
  unfold pF at H
  rw [hW] at H
  clear hW c fz x p
  obtain ⟨x, c, fz⟩ := H.out.cell (k := 16) (by decide)
  have p := H.out.p
  go_upto_region 16 with fail
  obtain ⟨W16, hW⟩ : ∃ W, World.setCell W15 ⟨T, 16, none⟩ (pF g 52) = W := ⟨_, rfl⟩
  have H := Lib.hid (H.out.skip (v := pF g 52) (k := 16) (by decide) (by rfl))
  unfold pF at hW
  rw [hW] 
  unfold pF at H
  rw [hW] at H
  clear hW c fz x p
  obtain ⟨x, c, fz⟩ := H.out.cell (k := 17) (by decide)
  have p := H.out.p
  go_upto_region 17 with fail
  obtain ⟨W17, hW⟩ : ∃ W, World.setCell W16 ⟨T, 17, none⟩ (pF g 53) = W := ⟨_, rfl⟩
  have H := Lib.hid (H.out.put (v := pF g 53) (k := 17) (by decide) (by rfl))
  unfold pF at hW
  rw [hW] 
  unfold pF at H
  rw [hW] at H
  clear hW c fz x p
  obtain ⟨x, c, fz⟩ := H.out.cell (k := 18) (by decide)
  have p := H.out.p
  go_upto_region 18 with fail
  obtain ⟨W18, hW⟩ : ∃ W, World.setCell W17 ⟨T, 18, none⟩ (pF g 54) = W := ⟨_, rfl⟩
  have H := Lib.hid (H.out.skip (v := pF g 54) (k := 18) (by decide) (by rfl))
  unfold pF at hW
  rw [hW] 
  unfold pF at H
  rw [hW] at H
  clear hW c fz x p
  obtain ⟨x, c, fz⟩ := H.out.cell (k := 19) (by decide)
  have p := H.out.p
  go_upto_region 19 with fail
  obtain ⟨W19, hW⟩ : ∃ W, World.setCell W18 ⟨T, 19, none⟩ (pF g 55) = W := ⟨_, rfl⟩
  have H := Lib.hid (H.out.skip (v := pF g 55) (k := 19) (by decide) (by rfl))
  unfold pF at hW
  rw [hW] 
  unfold pF at H
  rw [hW] at H
  clear hW c fz x p
  obtain ⟨x, c, fz⟩ := H.out.cell (k := 20) (by decide)
  have p := H.out.p
  go_upto_region 20 with fail
  obtain ⟨W20, hW⟩ : ∃ W, World.setCell W19 ⟨T, 20, none⟩ (pF g 56) = W := ⟨_, rfl⟩
  have H := Lib.hid (H.out.skip (v := pF g 56) (k := 20) (by decide) (by rfl))
  unfold pF at hW
  rw [hW] 
  unfold pF at H
  rw [hW] at H
  clear hW c fz x p
  obtain ⟨x, c, fz⟩ := H.out.cell (k := 21) (by decide)
  have p := H.out.p
  go_upto_region 21 with fail
  obtain ⟨W21, hW⟩ : ∃ W, World.setCell W20 ⟨T, 21, none⟩ (pF g 56) = W := ⟨_, rfl⟩
  have H := Lib.hid (H.out.skip (v := pF g 56) (k := 21) (by decide) (by rfl))
  unfold pF at hW
  rw [hW] 
  unfold pF at H
  rw [hW] at H
  clear hW c fz x p
  obtain ⟨x, c, fz⟩ := H.out.cell (k := 22) (by decide)
  have p := H.out.p
  go_upto_region 22 with fail
  obtain ⟨W22, hW⟩ : ∃ W, World.setCell W21 ⟨T, 22, none⟩ (pF g 57) = W := ⟨_, rfl⟩
  have H := Lib.hid (H.out.skip (v := pF g 57) (k := 22) (by decide) (by rfl))
  unfold pF at hW
  rw [hW] 
  unfold pF at H
  rw [hW] at H
  clear hW c fz x p
  obtain ⟨x, c, fz⟩ := H.out.cell (k := 23) (by decide)
  have p := H.out.p
  go_upto_region 23 with fail
  obtain ⟨W23, hW⟩ : ∃ W, World.setCell W22 ⟨T, 23, none⟩ (pF g 58) = W := ⟨_, rfl⟩
  have H := Lib.hid (H.out.skip (v := pF g 58) (k := 23) (by decide) (by rfl))
  unfold pF at hW
  rw [hW] 
  unfold pF at H
  rw [hW] at H
  clear hW c fz x p
  obtain ⟨x, c, fz⟩ := H.out.cell (k := 24) (by decide)
  have p := H.out.p
  go_wp2
  go_end0
  exact ⟨rfl, H.out.skip (v := pF g 59) (k := 24) (by decide) (by rfl)⟩
set_option maxRecDepth 100000 in
set_option maxHeartbeats 4000000 in
theorem findS_any (B g T : Nat) (w W0 : World) (h : TB B w W0 g T [(17, pF g 53), (5, pF g 41), (2, pF g 38)]) :
    Calls Tryz.prog 27 #[.pointer (some ⟨g, 0, none⟩)] W0 fun e w' => e = .returned (.tuple #[]) ∧ TB B w w' g T [(47, pF g 66), (40, pF g 60), (17, pF g 53), (5, pF g 41), (2, pF g 38)] := by
  have H := Lib.hid h
  clear h
  go_enter Tryz.func27, Tryz.ntmps27
  obtain ⟨x, c, fz⟩ := H.out.cell (k := 40) (by decide)
  have p := H.out.p
  go_upto_region 1 with fail
  obtain ⟨W1, hW⟩ : ∃ W, World.setCell W0 ⟨T, 40, none⟩ (pF g 60) = W := ⟨_, rfl⟩
  have H := Lib.hid (H.out.put (v := pF g 60) (k := 40) (by decide) (by rfl))
  unfold pF at hW
  rw [hW] 
  unfold pF at H
  rw [hW] at H
  clear hW c fz x p
  obtain ⟨x, c, fz⟩ := H.out.cell (k := 42) (by decide)
  have p := H.out.p
  go_upto_region 2 with fail
  obtain ⟨W2, hW⟩ : ∃ W, World.setCell W1 ⟨T, 42, none⟩ (pF g 61) = W := ⟨_, rfl⟩
  have H := Lib.hid (H.out.skip (v := pF g 61) (k := 42) (by decide) (by rfl))
  unfold pF at hW
  rw [hW] 
  unfold pF at H
  rw [hW] at H
  clear hW c fz x p
  obtain ⟨x, c, fz⟩ := H.out.cell (k := 43) (by decide)
  have p := H.out.p
  go_upto_region 3 with fail
  obtain ⟨W3, hW⟩ : ∃ W, World.setCell W2 ⟨T, 43, none⟩ (pF g 62) = W := ⟨_, rfl⟩
  have H := Lib.hid (H.out.skip (v := pF g 62) (k := 43) (by decide) (by rfl))
  unfold pF at hW
  rw [hW] 
  unfold pF at H
  rw [hW] at H
  clear hW c fz x p
  obtain ⟨x, c, fz⟩ := H.out.cell (k := 44) (by decide)
  have p := H.out.p
  go_upto_region 4 with fail
  obtain ⟨W4, hW⟩ : ∃ W, World.setCell W3 ⟨T, 44, none⟩ (pF g 63) = W := ⟨_, rfl⟩
  have H := Lib.hid (H.out.skip (v := pF g 63) (k := 44) (by decide) (by rfl))
  unfold pF at hW
  rw [hW] 
  unfold pF at H
  rw [hW] at H
  clear hW c fz x p
  obtain ⟨x, c, fz⟩ := H.out.cell (k := 45) (by decide)
  have p := H.out.p
  go_upto_region 5 with fail
  obtain ⟨W5, hW⟩ : ∃ W, World.setCell W4 ⟨T, 45, none⟩ (pF g 64) = W := ⟨_, rfl⟩
  have H := Lib.hid (H.out.skip (v := pF g 64) (k := 45) (by decide) (by rfl))
  unfold pF at hW
  rw [hW] 
  unfold pF at H
  rw [hW] at H
  clear hW c fz x p
  obtain ⟨x, c, fz⟩ := H.out.cell (k := 46) (by decide)
  have p := H.out.p
  go_upto_region 6 with fail
  obtain ⟨W6, hW⟩ : ∃ W, World.setCell W5 ⟨T, 46, none⟩ (pF g 65) = W := ⟨_, rfl⟩
  have H := Lib.hid (H.out.skip (v := pF g 65) (k := 46) (by decide) (by rfl))
  unfold pF at hW
  rw [hW] 
  unfold pF at H
  rw [hW] at H
  clear hW c fz x p
  obtain ⟨x, c, fz⟩ := H.out.cell (k := 47) (by decide)
  have p := H.out.p
  go_upto_region 7 with fail
  obtain ⟨W7, hW⟩ : ∃ W, World.setCell W6 ⟨T, 47, none⟩ (pF g 66) = W := ⟨_, rfl⟩
  have H := Lib.hid (H.out.put (v := pF g 66) (k := 47) (by decide) (by rfl))
  unfold pF at hW
  rw [hW] 
  unfold pF at H
  rw [hW] at H
  clear hW c fz x p
  obtain ⟨x, c, fz⟩ := H.out.cell (k := 48) (by decide)
  have p := H.out.p
  go_upto_region 8 with fail
  obtain ⟨W8, hW⟩ : ∃ W, World.setCell W7 ⟨T, 48, none⟩ (pF g 67) = W := ⟨_, rfl⟩
  have H := Lib.hid (H.out.skip (v := pF g 67) (k := 48) (by decide) (by rfl))
  unfold pF at hW
  rw [hW] 
  unfold pF at H
  rw [hW] at H
  clear hW c fz x p
  obtain ⟨x, c, fz⟩ := H.out.cell (k := 49) (by decide)
  have p := H.out.p
  go_upto_region 9 with fail
  obtain ⟨W9, hW⟩ : ∃ W, World.setCell W8 ⟨T, 49, none⟩ (pF g 68) = W := ⟨_, rfl⟩
  have H := Lib.hid (H.out.skip (v := pF g 68) (k := 49) (by decide) (by rfl))
  unfold pF at hW
  rw [hW] 
  unfold pF at H
  rw [hW] at H
  clear hW c fz x p
  obtain ⟨x, c, fz⟩ := H.out.cell (k := 50) (by decide)
  have p := H.out.p
  go_upto_region 10 with fail
  obtain ⟨W10, hW⟩ : ∃ W, World.setCell W9 ⟨T, 50, none⟩ (pF g 69) = W := ⟨_, rfl⟩
  have H := Lib.hid (H.out.skip (v := pF g 69) (k := 50) (by decide) (by rfl))
  unfold pF at hW
  rw [hW] 
  unfold pF at H
  rw [hW] at H
  clear hW c fz x p
  obtain ⟨x, c, fz⟩ := H.out.cell (k := 51) (by decide)
  have p := H.out.p
  go_upto_region 11 with fail
  obtain ⟨W11, hW⟩ : ∃ W, World.setCell W10 ⟨T, 51, none⟩ (pF g 70) = W := ⟨_, rfl⟩
  have H := Lib.hid (H.out.skip (v := pF g 70) (k := 51) (by decide) (by rfl))
  unfold pF at hW
  rw [hW] 
  unfold pF at H
  rw [hW] at H
  clear hW c fz x p
  obtain ⟨x, c, fz⟩ := H.out.cell (k := 52) (by decide)
  have p := H.out.p
  go_upto_region 12 with fail
  obtain ⟨W12, hW⟩ : ∃ W, World.setCell W11 ⟨T, 52, none⟩ (pF g 71) = W := ⟨_, rfl⟩
  have H := Lib.hid (H.out.skip (v := pF g 71) (k := 52) (by decide) (by rfl))
  unfold pF at hW
  rw [hW] 
  unfold pF at H
  rw [hW] at H
  clear hW c fz x p
  obtain ⟨x, c, fz⟩ := H.out.cell (k := 53) (by decide)
  have p := H.out.p
  go_upto_region 13 with fail
  obtain ⟨W13, hW⟩ : ∃ W, World.setCell W12 ⟨T, 53, none⟩ (pF g 72) = W := ⟨_, rfl⟩
  have H := Lib.hid (H.out.skip (v := pF g 72) (k := 53) (by decide) (by rfl))
  unfold pF at hW
  rw [hW] 
  unfold pF at H
  rw [hW] at H
  clear hW c fz x p
  obtain ⟨x, c, fz⟩ := H.out.cell (k := 54) (by decide)
  have p := H.out.p
  go_upto_region 14 with fail
  obtain ⟨W14, hW⟩ : ∃ W, World.setCell W13 ⟨T, 54, none⟩ (pF g 73) = W := ⟨_, rfl⟩
  have H := Lib.hid (H.out.skip (v := pF g 73) (k := 54) (by decide) (by rfl))
  unfold pF at hW
  rw [hW] 
  unfold pF at H
  rw [hW] at H
  clear hW c fz x p
  obtain ⟨x, c, fz⟩ := H.out.cell (k := 55) (by decide)
  have p := H.out.p
  go_upto_region 15 with fail
  obtain ⟨W15, hW⟩ : ∃ W, World.setCell W14 ⟨T, 55, none⟩ (pF g 74) = W := ⟨_, rfl⟩
  have H := Lib.hid (H.out.skip (v := pF g 74) (k := 55) (by decide) (by rfl))
  unfold pF at hW
  rw [hW] 
  unfold pF at H
  rw [hW] at H
  clear hW c fz x p
  obtain ⟨x, c, fz⟩ := H.out.cell (k := 56) (by decide)
  have p := H.out.p
  go_upto_region 16 with fail
  obtain ⟨W16, hW⟩ : ∃ W, World.setCell W15 ⟨T, 56, none⟩ (pF g 75) = W := ⟨_, rfl⟩
  have H := Lib.hid (H.out.skip (v := pF g 75) (k := 56) (by decide) (by rfl))
  unfold pF at hW
  rw [hW] 
  unfold pF at H
  rw [hW] at H
  clear hW c fz x p
  obtain ⟨x, c, fz⟩ := H.out.cell (k := 57) (by decide)
  have p := H.out.p
  go_upto_region 17 with fail
  obtain ⟨W17, hW⟩ : ∃ W, World.setCell W16 ⟨T, 57, none⟩ (pF g 76) = W := ⟨_, rfl⟩
  have H := Lib.hid (H.out.skip (v := pF g 76) (k := 57) (by decide) (by rfl))
  unfold pF at hW
  rw [hW] 
  unfold pF at H
  rw [hW] at H
  clear hW c fz x p
  obtain ⟨x, c, fz⟩ := H.out.cell (k := 58) (by decide)
  have p := H.out.p
  go_upto_region 18 with fail
  obtain ⟨W18, hW⟩ : ∃ W, World.setCell W17 ⟨T, 58, none⟩ (pF g 77) = W := ⟨_, rfl⟩
  have H := Lib.hid (H.out.skip (v := pF g 77) (k := 58) (by decide) (by rfl))
  unfold pF at hW
  rw [hW] 
  unfold pF at H
  rw [hW] at H
  clear hW c fz x p
  obtain ⟨x, c, fz⟩ := H.out.cell (k := 59) (by decide)
  have p := H.out.p
  go_upto_region 19 with fail
  obtain ⟨W19, hW⟩ : ∃ W, World.setCell W18 ⟨T, 59, none⟩ (pF g 78) = W := ⟨_, rfl⟩
  have H := Lib.hid (H.out.skip (v := pF g 78) (k := 59) (by decide) (by rfl))
  unfold pF at hW
  rw [hW] 
  unfold pF at H
  rw [hW] at H
  clear hW c fz x p
  obtain ⟨x, c, fz⟩ := H.out.cell (k := 60) (by decide)
  have p := H.out.p
  go_upto_region 20 with fail
  obtain ⟨W20, hW⟩ : ∃ W, World.setCell W19 ⟨T, 60, none⟩ (pF g 79) = W := ⟨_, rfl⟩
  have H := Lib.hid (H.out.skip (v := pF g 79) (k := 60) (by decide) (by rfl))
  unfold pF at hW
  rw [hW] 
  unfold pF at H
  rw [hW] at H
  clear hW c fz x p
  obtain ⟨x, c, fz⟩ := H.out.cell (k := 61) (by decide)
  have p := H.out.p
  go_upto_region 21 with fail
  obtain ⟨W21, hW⟩ : ∃ W, World.setCell W20 ⟨T, 61, none⟩ (pF g 80) = W := ⟨_, rfl⟩
  have H := Lib.hid (H.out.skip (v := pF g 80) (k := 61) (by decide) (by rfl))
  unfold pF at hW
  rw [hW] 
  unfold pF at H
  rw [hW] at H
  clear hW c fz x p
  obtain ⟨x, c, fz⟩ := H.out.cell (k := 62) (by decide)
  have p := H.out.p
  go_wp2
  go_end0
  exact ⟨rfl, H.out.skip (v := pF g 81) (k := 62) (by decide) (by rfl)⟩
end Go.Proofs.YtfpmhahjemdodaaGreatDoor
namespace Go.Proofs.YtfpmhahjemdodaaGreatDoor
open Go.RowKit Go.Shelf
attribute [local go_sem] stFl hmf
theorem noesc_run (a : Addr) (w : World) : (callFunc 137 #[.pointer (some a)]).run Tryz.prog w = .ok (.value (.pointer (some a))) w := by
  rw [run_callFunc_extern (e := Extern.AbiNoEscape.same) Tryz.func137 (by kernel_rfl) (by kernel_rfl) (by kernel_rfl) (by kernel_rfl)]
  rfl
theorem unsafe_fwd {w : World} {g : Nat} {c : Array Value} (h : w.heap[g]? = some (.cells c 51 (0, 0))) (hc : c.size = 5) : (convert 45 88 (.pointer (some ⟨g, 0, none⟩))).run Tryz.prog w = .ok (.pointer (some ⟨g, 0, none⟩)) w := by
  obtain ⟨j, hj, hjs⟩ : ∃ j, Tryz.prog.info? 48 = some j ∧ j.size ≠ 0 := ⟨Tryz.t48, by kernel_rfl, by decide +kernel⟩
  exact Lib.run_to_unsafe (e := 51) (cells := 5) w ⟨g, 0, none⟩ Tryz.underlying45 (by kernel_rfl) hj hjs (by simp [World.shape?, h, hc]) (Nat.zero_lt_succ 4)
theorem unsafe_back {w : World} {g : Nat} {c : Array Value} (h : w.heap[g]? = some (.cells c 51 (0, 0))) (hc : c.size = 5) : (convert 88 45 (.pointer (some ⟨g, 0, none⟩))).run Tryz.prog w = .ok (.pointer (some ⟨g, 0, none⟩)) w := by
  obtain ⟨j, hj, hjs⟩ : ∃ j, Tryz.prog.info? 48 = some j ∧ j.size ≠ 0 := ⟨Tryz.t48, by kernel_rfl, by decide +kernel⟩
  exact Lib.run_from_unsafe (e := 51) (cells := 5) w ⟨g, 0, none⟩ (by kernel_rfl) Tryz.underlying45 hj (by simp [World.shape?, h, hc]) (by kernel_rfl)
set_option maxRecDepth 100000 in
set_option maxHeartbeats 1000000 in
theorem blen_p (g n c : Nat) (A : Option Addr) (w : World) (h : w.cell? ⟨g, 1, none⟩ = some (.slice A n c)) : Calls Tryz.prog 181 #[.pointer (some ⟨g, 0, none⟩)] w fun e w' => e = .returned (.int .i64 (n : Nat)) ∧ w = w' := by
  go_enter Tryz.func181, Tryz.ntmps181
  go_wp2
  go_ret
  exact ⟨rfl, rfl⟩
set_option maxRecDepth 100000 in
set_option maxHeartbeats 1000000 in
theorem bcheck_used (g : Nat) (w : World) (h : w.cell? ⟨g, 0, none⟩ = some (.pointer (some ⟨g, 0, none⟩))) : Calls Tryz.prog 82 #[.pointer (some ⟨g, 0, none⟩)] w fun e w' => e = .returned (.tuple #[]) ∧ w = w' := by
  have k := Lib.run_neq_ptr_same (P := Tryz.prog) w ⟨g, 0, none⟩ Tryz.underlying45 (show Tryz.prog.info? 48 = some Tryz.t48 by kernel_rfl)
  go_enter Tryz.func82, Tryz.ntmps82
  go_wp2
  go_end0
  exact ⟨rfl, rfl⟩
set_option maxRecDepth 100000 in
set_option maxHeartbeats 1000000 in
theorem bcheck_new (g : Nat) (c : Array Value) (w : World) (hg : w.heap[g]? = some (.cells c 51 (0, 0))) (hc : c.size = 5) (h0 : c[0]? = some (.pointer none)) : Calls Tryz.prog 82 #[.pointer (some ⟨g, 0, none⟩)] w fun e w' => e = .returned (.tuple #[]) ∧ w' = w.setCell ⟨g, 0, none⟩ (.pointer (some ⟨g, 0, none⟩)) := by
  have k1 := unsafe_fwd hg hc
  have k2 := noesc_run ⟨g, 0, none⟩ w
  have k3 := unsafe_back hg hc
  have h := (cell_of_row w g 0 _ _ _ hg).trans h0
  have hf := frozen_of_row w g 0 _ _ hg
  clear hg hc h0
  go_enter Tryz.func82, Tryz.ntmps82
  go_wp2
  go_end0
  exact ⟨rfl, rfl⟩
end Go.Proofs.YtfpmhahjemdodaaGreatDoor
namespace Go.Proofs.YtfpmhahjemdodaaGreatDoor
open Go.RowKit Go.Shelf
attribute [local go_sem] stFl hmf
/-- The printer's block: its Builder's address and bytes, whether all is too long, whether an `in` stands in parentheses, its table. -/
structure Pr (B g : Nat) (bs : List Value) (lng wo : Bool) (ks : Value) (W : World) : Prop where
  lt : g < B
  le : B ≤ W.heap.size
  h : ∃ p v, (p = .pointer none ∨ p = .pointer (some ⟨g, 0, none⟩)) ∧ W.heap[g]? = some (.cells #[p, v, .bool lng, .bool wo, ks] 51 (0, 0)) ∧ W.ownsRow B 5 1 v bs.length bs
/-- What stays: all below B but the printer's block. -/
structure Kb (B g : Nat) (W W' : World) : Prop where
  os : W'.os = W.os
  tape : W'.tape = W.tape
  output : W'.output = W.output
  size : W.heap.size ≤ W'.heap.size
  block : ∀ k, k < B → k ≠ g → W'.heap[k]? = W.heap[k]?
  oth : Lib.OthersKept 5 (some g) W W'
theorem oth_set (g k : Nat) (v : Value) (W : World) : Lib.OthersKept 5 (some g) W (W.setCell ⟨g, k, none⟩ v) := fun j _ hj hb _ => (Below.heap_setCell W ⟨g, k, none⟩ v j (fun e => hb (by rw [e]))).trans hj
set_option maxRecDepth 100000 in
set_option maxHeartbeats 2000000 in
theorem bwrite_p (B g : Nat) (bs : List Value) (lng wo : Bool) (ks : Value) (s : ByteArray) (w : World) (h : Pr B g bs lng wo ks w) (hlen : bs.length + s.size ≤ 140737488355328) :
    Calls Tryz.prog 157 #[.pointer (some ⟨g, 0, none⟩), .string s] w fun e w' => e = .returned (.tuple #[.int .i64 s.size, .nilIface]) ∧ Pr B g (bs ++ Lib.strCells s) lng wo ks w' ∧ Kb B g w w' := by
  obtain ⟨hgB, hBw, p, v, hp, hg, hown⟩ := h
  have hne : ∀ k, v.ownBlock = some k → B ≤ k ∧ k < w.heap.size := fun k hk => hown.lt k hk
  have C : Calls Tryz.prog 82 #[.pointer (some ⟨g, 0, none⟩)] w fun e w' => e = .returned (.tuple #[]) ∧ w'.heap[g]? = some (.cells #[.pointer (some ⟨g, 0, none⟩), v, .bool lng, .bool wo, ks] 51 (0, 0)) ∧ w'.ownsRow B 5 1 v bs.length bs ∧ Kb B g w w' := by
    rcases hp with rfl | rfl
    · refine (bcheck_new g _ w hg rfl rfl).mono ?_
      rintro e w' ⟨rfl, rfl⟩
      refine ⟨rfl, heap_setCell_same w g 0 _ 51 _ hg, ?_, ⟨rfl, rfl, rfl, by simp [World.setCell], fun k _ hk => Below.heap_setCell _ _ _ _ hk, oth_set _ _ _ _⟩⟩
      refine hown.kept (row := some g) ⟨rfl, rfl, rfl, by simp [World.setCell], fun k _ hk => Below.heap_setCell _ _ _ _ (fun e => hk (by simp [e]))⟩ ?_
      exact Or.inr (fun e => by have := hne g e; omega)
    · refine (bcheck_used g w ((cell_of_row w g 0 _ _ _ hg).trans rfl)).mono ?_
      rintro e w' ⟨rfl, rfl⟩
      exact ⟨rfl, hg, hown, ⟨rfl, rfl, rfl, Nat.le_refl _, fun _ _ _ => rfl, Lib.OthersKept.refl _ _ _⟩⟩
  clear hg hown hp
  obtain ⟨i0, hi, hz0, hz1, hz2⟩ : ∃ i0, Tryz.prog.info? 5 = some i0 ∧ i0.zero = some (.int .u8 0) ∧ i0.size = 1 ∧ i0.bytes = 1 := ⟨Tryz.t5, by kernel_rfl, by kernel_rfl, by kernel_rfl, by kernel_rfl⟩
  go_enter Tryz.func157, Tryz.ntmps157
  go_wp2_with fail
  refine C.mono ?_
  rintro e w1 ⟨rfl, hg, hown, hk⟩
  have c0 : w1.cell? ⟨g, 0, none⟩ = some (.pointer (some ⟨g, 0, none⟩)) := (cell_of_row w1 g 0 _ _ _ hg).trans rfl
  have c1 : w1.cell? ⟨g, 1, none⟩ = some v := (cell_of_row w1 g 1 _ _ _ hg).trans rfl
  clear C
  go_wp2_with (at_builtin; refine Lib.wpList_append_own_string _ rfl _ _ 46 9 rfl B 5 i0 Tryz.underlying46 Tryz.underlying9 hi hz0 hz1 hz2 _ _ _ rfl hown s rfl ?c3 ?c4 ?c5 ?_)
  case c3 => unfold maxLen; omega
  case c4 => omega
  case c5 => have := hk.size; omega
  intro v' w2 hown' hgrow _
  have hg2 : w2.heap[g]? = some (.cells #[.pointer (some ⟨g, 0, none⟩), v, .bool lng, .bool wo, ks] 51 (0, 0)) := by
    rw [hgrow.block g (by have := hk.size; omega) (fun e => by have := hne g e.symm; omega)]
    exact hg
  have d0 : w2.cell? ⟨g, 0, none⟩ = some (.pointer (some ⟨g, 0, none⟩)) := (cell_of_row w2 g 0 _ _ _ hg2).trans rfl
  have d1 : w2.cell? ⟨g, 1, none⟩ = some v := (cell_of_row w2 g 1 _ _ _ hg2).trans rfl
  have f1 : w2.frozen? ⟨g, 1, none⟩ = false := frozen_of_row w2 g 1 _ _ hg2
  have hv' : ∀ k, v'.ownBlock = some k → B ≤ k := fun k hk => (hown'.lt k hk).1
  obtain ⟨ao, n', cap, rfl⟩ : ∃ ao n' cap, v' = .slice ao n' cap := by
    rcases hown'.2 with ⟨hv, _⟩ | ⟨g, cap, cur, hv, _⟩
    · exact ⟨_, _, _, hv⟩
    · exact ⟨_, _, _, hv⟩
  go_wp2
  go_ret2
  refine ⟨rfl, ⟨hgB, ?_, _, _, .inr rfl, heap_setCell_same w2 g 1 _ 51 _ hg2, ?_⟩, ⟨?_, ?_, ?_, ?_, ?_, ?_⟩⟩
  · have h1 := hk.size; have h2 := hgrow.size; simp [World.setCell]; omega
  · refine World.ownsRow.kept (row := some g) (w := w2) (by simpa [Lib.strCells_length] using hown') ⟨rfl, rfl, rfl, by simp [World.setCell], fun k _ hk => Below.heap_setCell _ _ _ _ (fun e => hk (by simp [e]))⟩ ?_
    exact Or.inr (fun e => by have := hv' g e; omega)
  · exact (show w2.os = w.os from hgrow.os.trans hk.os)
  · exact (show w2.tape = w.tape from hgrow.tape.trans hk.tape)
  · exact (show w2.output = w.output from hgrow.output.trans hk.output)
  · have h1 := hk.size; have h2 := hgrow.size; simp [World.setCell]; omega
  · intro k hkB hkg
    rw [Below.heap_setCell _ _ _ _ hkg, hgrow.block k (by have := hk.size; omega) (fun e => by have := (hne k e.symm).1; omega)]
    exact hk.block k hkB hkg
  · intro k o hk0 hb ho
    have h1 := hk.oth k o hk0 hb ho
    refine (Below.heap_setCell _ _ _ _ (fun e => hb (by rw [e]))).trans ?_
    rw [hgrow.block k (Array.getElem?_eq_some_iff.1 h1).1 (fun e => ?_)]
    · exact h1
    · rcases hown.2 with ⟨hv, _⟩ | ⟨q, cap, cur, hv, _, hq, _⟩
      · rw [hv] at e; simp [Value.ownBlock] at e
      · rw [hv] at e
        simp [Value.ownBlock] at e
        subst e
        rw [hq] at h1
        exact ho _ _ (Option.some.inj h1).symm
end Go.Proofs.YtfpmhahjemdodaaGreatDoor
