/-
  Rows of words that a call may write.
-/
import Derived.Test.YtlabblkonkhmgaaDoorWord
import Derived.Test.YtlabblkonkhmgaaDoorPlain
namespace Go.Proofs.YtlabblkonkhmgaaDoor
open Go.RowKit
/-- Block g is a row of just the words R. -/
def Row (w : World) (g : Nat) (R : List Nat) : Prop := w.heap[g]? = some (.cells (R.map fun u => Value.int .u32 (u : Nat)).toArray 42 (0, 0))
theorem Row.lt {w : World} {g : Nat} {R : List Nat} (h : Row w g R) : g < w.heap.size := by
  rcases Nat.lt_or_ge g w.heap.size with hlt | hge
  · exact hlt
  · unfold Row at h; rw [Array.getElem?_eq_none hge] at h; cases h
theorem Row.cell {w : World} {g : Nat} {R : List Nat} (h : Row w g R) (i : Nat) (hi : i < R.length) : w.cell? ⟨g, i, none⟩ = some (.int .u32 ((R.getD i 0 : Nat) : Int)) := by
  rw [cell_of_row w g i _ _ _ h, List.getElem?_toArray, List.getElem?_map, getD_some hi]; rfl
theorem Row.frozen {w : World} {g : Nat} {R : List Nat} (h : Row w g R) (i : Nat) : w.frozen? ⟨g, i, none⟩ = false := by
  unfold Row at h
  simp [World.frozen?, h]
theorem Row.drewN {w : World} {g : Nat} {R : List Nat} (h : Row w g R) (n : Nat) : Row (w.drewN n) g R := h
theorem Row.below {w w' : World} {g B : Nat} {R : List Nat} (h : Row w g R) (hg : g < B) (hb : Below B w w') : Row w' g R := (hb.block g hg).trans h
theorem Row.set {w : World} {g : Nat} {R : List Nat} (h : Row w g R) (i u : Nat) : Row (w.setCell ⟨g, i, none⟩ (.int .u32 (u : Nat))) g (R.set i u) := by
  unfold Row at h ⊢
  rw [List.map_set]
  simp [World.setCell, Array.getElem?_modify, h]
theorem Row.rw {w : World} {g : Nat} {R : List Nat} (h : Row w g R) (hw : Ws R) (o n : Nat) (ho : o + n ≤ R.length) : RW w (g + 1) (some ⟨g, o, none⟩) ((R.drop o).take n) := ⟨(hw.drop o).take n, fun _ => by
  refine ⟨g, o, rfl, by omega, fun k u hu => ?_⟩
  rw [List.getElem?_take] at hu
  split at hu
  · next hk =>
    rw [List.getElem?_drop] at hu
    have := h.cell (o + k) (by omega)
    rw [List.getD_eq_getElem?_getD, hu] at this
    exact this
  · cases hu⟩
theorem Row.rw0 {w : World} {g : Nat} {R : List Nat} (h : Row w g R) (hw : Ws R) : RW w (g + 1) (some ⟨g, 0, none⟩) R := by
  have := h.rw hw 0 R.length (by omega)
  rw [List.drop_zero, List.take_of_length_le (Nat.le_refl _)] at this
  exact this
theorem Row.made (w : World) (n : Nat) : Row (w.alloc (.cells (madeCells #[.int .u32 0] n) 42)) w.heap.size (List.replicate n 0) := by
  have e := heap_alloc_new w (.cells (madeCells #[Value.int .u32 0] n) 42)
  unfold Row
  rw [show madeCells #[Value.int .u32 0] n = (List.replicate n (Value.int .u32 0)).toArray from Array.toList_inj.1 (by rw [toList_madeCells_one, List.toList_toArray])] at e ⊢
  rw [List.map_replicate]
  exact e
theorem Row.own {w : World} {g : Nat} {R : List Nat} (h : Row w g R) {B : Nat} (hB : B ≤ g) (hl : R.length ≤ maxLen) : OwnW B R (.slice (some ⟨g, 0, none⟩) R.length R.length) w := OwnW.of_block hB hl h
theorem Ws.zeros (n : Nat) : Ws (List.replicate n 0) := fun u hu => by rw [List.eq_of_mem_replicate hu]; omega
theorem getD_zeros (n j : Nat) : (List.replicate n 0).getD j 0 = 0 := by
  rw [List.getD_eq_getElem?_getD, List.getElem?_replicate]
  split <;> rfl
end Go.Proofs.YtlabblkonkhmgaaDoor
