/-
  A kept object without properties, told.
-/
import Derived.Test.YtmlgjijjkikkhaaGreatDoorO9
namespace Go.Proofs.YtmlgjijjkikkhaaGreatDoor
open Go.RowKit
attribute [local go_sem] stF neqM eqS
theorem step_n {P : Program} {md : Region.Mode} {ops : Array Oper} {Q : Exit → Act → World → Prop} {S : World → Prop} {i fuel : Nat} {oi : Oper} {listed : Array Bool} {l : List Value} {d : List Deferred} {w : World}
    (hr : Region.ready md ops listed = [i]) (hi : ops[i]? = some oi) (hd : oi.dst = none) (hw : Region.wanted oi (yielded ops l.toArray) = true)
    (h : ∀ K : Act → World → Prop, Hid (∀ v w', S w' → wpAnyH P md ops Q S fuel (listed.setIfInBounds i true) { tmps := l.toArray, defers := d } w' → K (Act.put { tmps := l.toArray, defers := d } oi.dst v) w') → Oper.wp P oi { tmps := l.toArray, defers := d } w K Q) :
    wpAnyH P md ops Q S (fuel + 1) listed { tmps := l.toArray, defers := d } w :=
  wpAnyH_ready hr (by simp) (AllReadyH.cons hi (fun K hK => by
    rw [if_pos hw]
    refine h K (Lib.hid fun v w' hS hW => ?_)
    refine hK.out _ _ hS (fun _ => ?_)
    rw [hd] at *
    exact hW) AllReadyH.nil)
theorem row1o (W : World) (A : Obj) (o c : Array Value) (t : TypeId) : ((W.alloc A).alloc (.cells o t)).setRow (W.heap.size + 1) c = (W.alloc A).alloc (.cells c t) := by
  have e : (W.alloc A).heap.size = W.heap.size + 1 := by simp
  rw [← e, World.setRow_alloc_new]
theorem new2o (W : World) (A : Obj) (c : Array Value) (t : TypeId) : ((W.alloc A).alloc (.cells c t)).heap[W.heap.size + 1]? = some (.cells c t (0, 0)) := by
  have e : (W.alloc A).heap.size = W.heap.size + 1 := by simp
  rw [← e]
  exact heap_alloc_last (W.alloc A) _
structure TD (w W : World) (t : Nat) (x : Ob) (sP sB : Value) : Prop where
  h : HobE W t x (.slice none 0 0) (.slice none 0 0)
  l : t < w.heap.size
  r : W.heap[w.heap.size]? = some (.cells zO 70 (0, 0))
  o : W.heap[w.heap.size + 1]? = some (.cells (celO x sP sB) 70 (0, 0))
  b : Below w.heap.size w W
theorem TD.on {w W W' : World} {t : Nat} {x : Ob} {sP sB : Value} (h : TD w W t x sP sB) (b : Below W.heap.size W W') : TD w W' t x sP sB :=
  ⟨h.h.on b, h.l, (b.block _ (Array.getElem?_eq_some_iff.1 h.r).1).trans h.r, (b.block _ (Array.getElem?_eq_some_iff.1 h.o).1).trans h.o, h.b.trans (b.mono h.b.size)⟩
theorem TD.drew {w W : World} {t : Nat} {x : Ob} {sP sB : Value} (h : TD w W t x sP sB) : TD w W.drew t x sP sB := h.on (Below.refl _ _).drew
theorem HobE.set {W : World} {t g k : Nat} {x : Ob} {sP sB v : Value} (h : HobE W t x sP sB) (hn : t ≠ g) : HobE (W.setCell ⟨g, k, none⟩ v) t x sP sB := by
  obtain ⟨q, h⟩ := h
  exact ⟨q, (Below.heap_setCell _ _ _ _ hn).trans h⟩
theorem TD.set3 {w W : World} {t : Nat} {x : Ob} {sP sB : Value} (h : TD w W t x sP sB) (v : Value) : TD w (W.setCell ⟨w.heap.size + 1, 3, none⟩ v) t x v sB :=
  ⟨h.h.set (by have := h.l; omega), h.l, (Below.heap_setCell _ _ _ _ (by show w.heap.size ≠ w.heap.size + 1; omega)).trans h.r, (heap_setCell_same W _ 3 _ 70 _ h.o).trans rfl, h.b.setCell (p := ⟨w.heap.size + 1, 3, none⟩) (Nat.le_succ _) _⟩
theorem TD.set12 {w W : World} {t : Nat} {x : Ob} {sP sB : Value} (h : TD w W t x sP sB) (v : Value) : TD w (W.setCell ⟨w.heap.size + 1, 12, none⟩ v) t x sP v :=
  ⟨h.h.set (by have := h.l; omega), h.l, (Below.heap_setCell _ _ _ _ (by show w.heap.size ≠ w.heap.size + 1; omega)).trans h.r, (heap_setCell_same W _ 12 _ 70 _ h.o).trans rfl, h.b.setCell (p := ⟨w.heap.size + 1, 12, none⟩) (Nat.le_succ _) _⟩
theorem TD.oc {w W : World} {t : Nat} {x : Ob} {sP sB : Value} (h : TD w W t x sP sB) {k : Nat} {u : Value} (hv : (celO x sP sB)[k]? = some u) : W.cell? ⟨w.heap.size + 1, k, none⟩ = some u ∧ W.frozen? ⟨w.heap.size + 1, k, none⟩ = false :=
  ⟨(cell_of_row W _ k _ _ _ h.o).trans hv, frozen_of_row W _ k _ _ h.o⟩
theorem HobE.bd {W : World} {t : Nat} {x : Ob} {sP sB : Value} (h : HobE W t x sP sB) : W.cell? ⟨t, 12, none⟩ = some sB := by
  obtain ⟨q, h⟩ := h
  exact (cell_of_row W t 12 _ _ _ h).trans rfl
theorem ldOs {ops : Array Oper} {rest : List Oper} {o : Oper} {a : Act} {w : World} {Q : Exit → Act → World → Prop} {x : Operand} {g k : Nat} {y : Ob} {sP sB : Value} (hg : HobE w g y sP sB) (hd : o.dst = some k) (hw : Region.wanted o (yielded ops a.tmps) = true) (ho : o.op = .load 70 x)
    (hx : a.eval x = .pointer (some ⟨g, 0, none⟩)) (h : wpList Tryz.prog ops Q rest (a.put (some k) (.agg (celO y sP sB))) w) : wpList Tryz.prog ops Q (o :: rest) a w := by
  obtain ⟨q, hg⟩ := hg
  have h5 := run_load_seg (P := Tryz.prog) w g 0 13 136 70 _ (0, 0) _ hg Tryz.underlying70 rfl (by kernel_rfl) (by show 0 + 13 ≤ 15; omega)
  refine wpList_wanted hw ?_
  unfold Oper.wp execOp
  simp only [ho, hx, Instr.loadAt, Instr.sureAddr, Sem.run_bind, Sem.run_pure, Result.andThen_ok, h5]
  show wpList Tryz.prog ops Q rest (a.put o.dst (.agg (celO y sP sB))) w
  rw [hd]
  exact h
set_option maxRecDepth 100000 in
set_option maxHeartbeats 2000000 in
theorem told_e {t : Nat} {x : Ob} {w : World} (h : HobE w t x (.slice none 0 0) (.slice none 0 0)) : Calls Tryz.prog 107 #[.pointer (some ⟨t, 0, none⟩)] w fun e w' => (∃ q, e = .returned (.agg (celO x (.slice (some ⟨q, 0, none⟩) 0 0) (.slice none 0 0)))) ∧ Below w.heap.size w w' := by
  have C1 := Lib.hid (fun W (h : HobE W t x (.slice none 0 0) (.slice none 0 0)) => list_e h)
  have C2 := Lib.hid (fun W => clone_nil W)
  have HT := Lib.hid h.lt
  have H := Lib.hid (fun X => h.on (below_a1 w X))
  clear h
  go_enter Tryz.func107, Tryz.ntmps107
  go_upto_region 2 with (first | refine ldOs (k := 7) (H.out _) rfl (by kernel_rfl) rfl rfl ?_ | (refine wpList_store_row rfl 70 _ _ rfl (w.heap.size + 1) _ rfl rfl 70 _ (new2o w _ _ _) (by kernel_rfl) rfl (by kernel_rfl) ?_; rw [row1o]))
  obtain ⟨W1, hW1⟩ : ∃ W1, (w.alloc (.cells zO 70)).alloc (.cells (celO x (.slice none 0 0) (.slice none 0 0)) 70) = W1 := ⟨_, rfl⟩
  have H1 := Lib.hid (show TD w W1 t x (.slice none 0 0) (.slice none 0 0) by
    rw [← hW1]
    refine ⟨(H.out _).on (below_a1 _ _), HT.out, ((below_a1 _ _).block _ (by simp)).trans (new1 w _ _), new2o w _ _ _, below_a2 w _ _⟩)
  rw [hW1]
  clear hW1 H HT
  refine wp_region_held_drew (S := fun W => ∃ sP sB, TD w W t x sP sB) (by kernel_rfl) ⟨_, _, H1.out.drew⟩ (fun hHeld => ?_)
  have hT := H1.out.drew
  clear H1
  refine take_s (i := 0) rfl (by kernel_rfl) (by kernel_rfl) (by kernel_rfl) (fun _ _ _ h => h) (Or.inl ⟨by rfl, by (intro w' hSw; go_simp; try with_reducible rfl)⟩) rfl (by assumption) ?_; simp only [lset]
  refine take_s (i := 1) rfl (by kernel_rfl) (by kernel_rfl) (by kernel_rfl) (fun _ _ _ h => h) (Or.inl ⟨by rfl, by (intro w' hSw; go_simp; try with_reducible rfl)⟩) rfl (by assumption) ?_; simp only [lset]
  refine take_s (i := 2) rfl (by kernel_rfl) (by kernel_rfl) (by kernel_rfl) (fun _ _ _ h => h) (Or.inl ⟨by rfl, by (intro w' hSw; go_simp; try with_reducible rfl)⟩) rfl (by assumption) ?_; simp only [lset]
  refine take_s (i := 4) rfl (by kernel_rfl) (by kernel_rfl) (by kernel_rfl) (fun _ _ _ h => h) (Or.inl ⟨by rfl, by (intro w' hSw; go_simp; try with_reducible rfl)⟩) rfl (by assumption) ?_; simp only [lset]
  refine take_s (i := 5) rfl (by kernel_rfl) (by kernel_rfl) (by kernel_rfl) (fun _ _ _ h => h) (Or.inl ⟨by rfl, by (intro w' hSw; go_simp; try with_reducible rfl)⟩) rfl (by assumption) ?_; simp only [lset]
  refine take_s (i := 6) rfl (by kernel_rfl) (by kernel_rfl) (by kernel_rfl) (fun _ _ _ h => h) (Or.inl ⟨by rfl, by (intro w' hSw; go_simp; try with_reducible rfl)⟩) rfl (by assumption) ?_; simp only [lset]
  refine take_s (i := 7) rfl (by kernel_rfl) (by kernel_rfl) (by kernel_rfl) (fun _ _ _ h => h) (Or.inl ⟨by rfl, by (intro w' hSw; go_simp; try with_reducible rfl)⟩) rfl (by assumption) ?_; simp only [lset]
  refine take_s (v := .slice none 0 0) (i := 8) rfl (by kernel_rfl) (by kernel_rfl) (by kernel_rfl) (fun _ _ _ h => h) (Or.inl ⟨by rfl, by (intro w' hSw; obtain ⟨_, _, hSw⟩ := hSw; have c := hSw.h.bd; go_simp)⟩) rfl (by assumption) ?_; simp only [lset]
  refine call_s (i := 3) (by kernel_rfl) rfl rfl (by rfl) (fun K hK => ?_)
  go_simp
  with_reducible refine (C1.out _ hT.h).mono ?_
  rintro e w2 ⟨⟨q, rfl⟩, b2⟩
  have hT2 := hT.on b2
  clear hHeld hT b2
  refine hK.out _ _ ⟨_, _, hT2⟩ ?_; clear hK K; simp only [lset]
  have hHeld : ∃ sP sB, TD w w2 t x sP sB := ⟨_, _, hT2⟩
  refine take_s (i := 10) rfl (by kernel_rfl) (by kernel_rfl) (by kernel_rfl) (fun _ _ _ h => h) (Or.inl ⟨by rfl, by (intro w' hSw; go_simp; try with_reducible rfl)⟩) rfl (by assumption) ?_; simp only [lset]
  refine call_s (i := 9) (by kernel_rfl) rfl rfl (by rfl) (fun K hK => ?_)
  go_simp
  with_reducible refine (C2.out _).mono ?_
  rintro e w3 ⟨rfl, rfl⟩
  refine hK.out _ _ ⟨_, _, hT2⟩ ?_; clear hK K; simp only [lset]
  refine step_n (i := 11) (by kernel_rfl) rfl rfl (by rfl) (fun K hK => ?_)
  have c3 := (hT2.oc (k := 3) (u := .slice none 0 0) rfl).1
  have f3 := (hT2.oc (k := 3) (u := .slice none 0 0) rfl).2
  go_simp
  have hT3 := hT2.set3 (.slice (some ⟨q, 0, none⟩) 0 0)
  refine hK.out undef _ ⟨_, _, hT3⟩ ?_; clear hK K hHeld c3 f3
  have hHeld : ∃ sP sB, TD w (w2.setCell ⟨w.heap.size + 1, 3, none⟩ (.slice (some ⟨q, 0, none⟩) 0 0)) t x sP sB := ⟨_, _, hT3⟩
  refine take_s (i := 12) rfl (by kernel_rfl) (by kernel_rfl) (by kernel_rfl) (fun _ _ _ h => h) (Or.inl ⟨by rfl, by (intro w' hSw; go_simp; try with_reducible rfl)⟩) rfl (by assumption) ?_; simp only [lset]
  clear hHeld
  refine step_n (i := 13) (by kernel_rfl) rfl rfl (by rfl) (fun K hK => ?_)
  have c12 := (hT3.oc (k := 12) (u := .slice none 0 0) rfl).1
  have f12 := (hT3.oc (k := 12) (u := .slice none 0 0) rfl).2
  go_simp
  have hT4 := hT3.set12 (.slice none 0 0)
  refine hK.out undef _ ⟨_, _, hT4⟩ ?_; clear hK K c12 f12
  refine wpAnyH_done (by kernel_rfl) ?_ _
  have H4 := Lib.hid hT4
  clear hT4 hT3 hT2 C1 C2
  go_wp2_with (first | refine ldO (k := 20) H4.out.o rfl (by kernel_rfl) rfl rfl ?_ | refine wpList_store_row rfl 70 _ _ rfl w.heap.size _ rfl rfl 70 _ H4.out.r (by kernel_rfl) rfl (by kernel_rfl) ?_)
  refine bodyPost_ret (results_cellV rfl _ _ _ _ _ rfl (run_loadVar_row _ w.heap.size 70 70 (celO x (.slice (some ⟨q, 0, none⟩) 0 0) (.slice none 0 0)) (0, 0) _ (setRow_heap _ _ _ _ _ _ H4.out.r) Tryz.underlying70 rfl (by kernel_rfl))) rfl ⟨⟨q, rfl⟩, below_setRowK H4.out.b (Nat.le_refl _) _⟩
end Go.Proofs.YtmlgjijjkikkhaaGreatDoor
