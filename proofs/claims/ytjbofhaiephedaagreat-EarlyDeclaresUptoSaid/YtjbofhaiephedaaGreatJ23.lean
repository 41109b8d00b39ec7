/-
  The program's table of shapes, whole.
-/
import Derived.Test.YtjbofhaiephedaaGreatJ19
import Derived.Test.YtjbofhaiephedaaGreatJ20
import Derived.Test.YtjbofhaiephedaaGreatJ21
import Derived.Test.YtjbofhaiephedaaGreatJ22
namespace Go.Proofs.YtjbofhaiephedaaGreat
open Go.RowKit Go.Shelf
attribute [local go_sem] stFl hmf
theorem Tab.congr {nb b : Nat} {F G : Nat → Shp} {w : World} (h : Tab nb b F w) (e : ∀ k, k < 63 → F k = G k) : Tab nb b G w :=
  ⟨fun k hk => by obtain ⟨vs, h1, h2⟩ := h.ent k hk; exact ⟨vs, h1, by rw [← e k hk]; exact h2⟩, h.thr, h.lt, h.le⟩
theorem tab_new (w : World) (ty : TypeId) : Tab (w.heap.size + 1) w.heap.size (fun _ => {}) (w.alloc (.cells (Array.replicate 315 .nilFunc) ty (0, 0))) := by
  have hw : (w.alloc (.cells (Array.replicate 315 .nilFunc) ty (0, 0))).heap[w.heap.size]? = some (.cells (Array.replicate 315 .nilFunc) ty (0, 0)) := World.alloc_heap_new _ _
  obtain ⟨u, hu⟩ : ∃ u, w.alloc (.cells (Array.replicate 315 .nilFunc) ty (0, 0)) = u := ⟨_, rfl⟩
  have hz : u.heap.size = w.heap.size + 1 := by rw [← hu]; simp
  rw [hu] at hw ⊢
  have hc : ∀ j, j < 315 → u.cell? ⟨w.heap.size, j, none⟩ = some .nilFunc := fun j hj =>
    (cell_of_row u w.heap.size j _ _ _ hw).trans (by simp [hj])
  refine ⟨fun k hk => ⟨[.nilFunc, .nilFunc, .nilFunc, .nilFunc, .nilFunc], fun j v hv => ?_, _, _, _, _, _, rfl, rfl, rfl, rfl, rfl, rfl⟩, fun j hj => ⟨?_, ?_⟩, by omega, by omega⟩
  · have hj : j < 5 := (List.getElem?_eq_some_iff.1 hv).1
    rw [hc _ (by omega)]
    have : j = 0 ∨ j = 1 ∨ j = 2 ∨ j = 3 ∨ j = 4 := by omega
    rcases this with rfl | rfl | rfl | rfl | rfl <;> exact hv
  · rw [hc _ (by omega)]
    rfl
  · unfold World.frozen?
    rw [show (⟨w.heap.size, 0 + j, none⟩ : Addr).block = w.heap.size from rfl, hw]
    simp
set_option maxRecDepth 100000 in
set_option maxHeartbeats 4000000 in
theorem made_shapes : madeCells (Value.cells (.agg #[.nilFunc, .nilFunc, .nilFunc, .nilFunc, .nilFunc])) 315 = Array.replicate 315 .nilFunc := by
  kernel_rfl
theorem mk_shapes (w : World) : (Instr.makeSlice 63 (.int .i64 63) (.int .i64 63)).run Tryz.prog w = .ok (.slice (some ⟨w.heap.size, 0, none⟩) 63 63) (w.alloc (.cells (Array.replicate 315 .nilFunc) 70)) := by
  have h := run_makeSlice (P := Tryz.prog) w 63 70 Tryz.t70 (.agg #[.nilFunc, .nilFunc, .nilFunc, .nilFunc, .nilFunc]) Tryz.underlying63 (by kernel_rfl) (by kernel_rfl) .i64 .i64 63 63 (by omega) (by omega) (by decide) (by decide) (by omega)
  rw [← made_shapes]
  exact h
attribute [local go_sem] mk_shapes
set_option maxRecDepth 100000 in
set_option maxHeartbeats 4000000 in
theorem ashapes_any {nmd rsv : ByteArray → Bool} (hL : Lx nmd rsv) (W : World) :
    Calls Tryz.prog 28 #[] W fun e w' => ∃ b, e = .returned (.slice (some ⟨b, 0, none⟩) 63 63) ∧ W.heap.size ≤ b ∧ Tab (b + 1) b (shp nmd rsv) w' ∧ Below W.heap.size W w' := by
  have HL := Lib.hid hL
  clear hL
  have HT := Lib.hid (tab_new W 70)
  have hK : Below W.heap.size W (W.alloc (.cells (Array.replicate 315 .nilFunc) 70 (0, 0))) := b1 _
  have hz : (W.alloc (.cells (Array.replicate 315 .nilFunc) 70 (0, 0))).heap.size = W.heap.size + 1 := by simp
  have HB := Lib.hid hK
  clear hK
  go_enter Tryz.func28, Tryz.ntmps28
  go_wp2_with fail
  refine (ashapeOperands_any HL.out _ HT.out).mono ?_
  rintro e w1 ⟨⟨v1, rfl⟩, hT1, hK1⟩
  have HT1 := Lib.hid hT1
  have HK1 := Lib.hid hK1
  clear hT1 hK1
  go_wp2_with fail
  refine (ashapeOperators_any HL.out _ HT1.out).mono ?_
  rintro e w2 ⟨⟨v2, rfl⟩, hT2, hK2⟩
  have HT2 := Lib.hid hT2
  have HK2 := Lib.hid (HK1.out.trans hK2)
  clear hT2 hK2
  go_wp2_with fail
  refine (ashapeSimple_any HL.out _ HT2.out).mono ?_
  rintro e w3 ⟨⟨v3, rfl⟩, hT3, hK3⟩
  have HT3 := Lib.hid hT3
  have HK3 := Lib.hid (HK2.out.trans hK3)
  clear hT3 hK3
  go_wp2_with fail
  refine (ashapeNested_any HL.out _ HT3.out).mono ?_
  rintro e w4 ⟨⟨v4, rfl⟩, hT4, hK4⟩
  have HT4 := Lib.hid hT4
  have HK4 := Lib.hid (HK3.out.trans hK4)
  clear hT4 hK4
  go_wp2
  go_ret
  refine ⟨_, rfl, Nat.le_refl _, HT4.out.congr ?_, ?_⟩
  · intro k hk
    iterate 63
      rcases k with _ | k
      · rfl
    omega
  · have hx := HK4.out
    have h0 := HB.out
    exact ⟨hx.os.trans h0.os, hx.tape.trans h0.tape, hx.output.trans h0.output, Nat.le_trans h0.size hx.size, fun k hk => (hx.block k (by omega) (by omega)).trans (h0.block k hk)⟩
end Go.Proofs.YtjbofhaiephedaaGreat
