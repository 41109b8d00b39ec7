/-
  An object without properties suits its class; an object as an argument.
-/
import Derived.Test.YtmlgjijjkikkhaaGreatDoorO4
import Derived.Test.YtmlgjijjkikkhaaGreatDoorF4
namespace Go.Proofs.YtmlgjijjkikkhaaGreatDoor
open Go.RowKit
attribute [local go_sem] stF neqM eqS
def lengthK : ByteArray := ⟨#[0, 108, 0, 101, 0, 110, 0, 103, 0, 116, 0, 104]⟩
/-- A kept object that has no properties. -/
def HobE (W : World) (t : Nat) (x : Ob) (sP sB : Value) : Prop := ∃ q, W.heap[t]? = some (.cells (celH x sP sB (.slice (some ⟨q, 0, none⟩) 0 0) none) 136 (0, 0))
theorem HobE.on {W W' : World} {t : Nat} {x : Ob} {sP sB : Value} (h : HobE W t x sP sB) (b : Below W.heap.size W W') : HobE W' t x sP sB := by
  obtain ⟨q, h⟩ := h
  exact ⟨q, (b.block _ (Array.getElem?_eq_some_iff.1 h).1).trans h⟩
theorem HobE.tab {W : World} {t : Nat} {x : Ob} {sP sB : Value} (h : HobE W t x sP sB) : TabF W t 13 [] := by
  obtain ⟨q, h⟩ := h
  exact ⟨(cell_of_row W t 14 _ _ _ h).trans rfl, ⟨_, 0, (cell_of_row W t 13 _ _ _ h).trans rfl, by simp, fun h => absurd rfl h⟩, by simp⟩
theorem HobE.lt {W : World} {t : Nat} {x : Ob} {sP sB : Value} (h : HobE W t x sP sB) : t < W.heap.size := by
  obtain ⟨q, h⟩ := h
  exact (Array.getElem?_eq_some_iff.1 h).1
theorem HobE.cl {W : World} {t : Nat} {x : Ob} {sP sB : Value} (h : HobE W t x sP sB) : W.cell? ⟨t, 0, none⟩ = some (.int .i64 x.oc) := by
  obtain ⟨q, h⟩ := h
  exact (cell_of_row W t 0 _ _ _ h).trans rfl
set_option maxRecDepth 100000 in
set_option maxHeartbeats 2000000 in
theorem suits_e {t : Nat} {x : Ob} {sP sB : Value} {w : World} (h : HobE w t x sP sB) (h3 : x.oc ≠ 3) (h4 : x.oc ≠ 4) :
    Calls Tryz.prog 87 #[.pointer (some ⟨t, 0, none⟩)] w fun e w' => e = .returned (.bool true) ∧ Below w.heap.size w w' := by
  have C := Lib.hid (get_no lengthK (w := w) (t := t) (K := []) rfl (fun X => (h.on (below_a1 w X)).tab))
  have H := Lib.hid h
  have e3 : (x.oc == 3) = false := by simpa using h3
  have e4 : (x.oc == 4) = false := by simpa using h4
  unfold lengthK at C
  clear h h3 h4
  go_enter Tryz.func87, Tryz.ntmps87
  go_wp2_with fail
  refine C.out.mono ?_
  rintro e w2 ⟨rfl, b2⟩
  have HB2 := Lib.hid (fun X => b2.alloc b2.size X)
  have c0 := fun X => ((H.out.on b2).on (below_a1 w2 X)).cl
  clear b2 C H
  go_wp2_with (refine wpList_store_row rfl 152 _ _ rfl w2.heap.size _ rfl rfl 152 _ (new1 w2 _ _) (by kernel_rfl) rfl (by kernel_rfl) ?_; rw [World.setRow_alloc_new])
  go_ret
  exact ⟨rfl, HB2.out _⟩
/-- An object's block, as a parameter lies. -/
structure SO (w W : World) (x : Ob) (sP sB : Value) : Prop where
  k : W.heap[w.heap.size]? = some (.cells (celO x sP sB) 70 (0, 0))
  b : Below w.heap.size w W
theorem SO.new {w W1 : World} {x : Ob} {sP sB : Value} (h : w.alloc (.cells (celO x sP sB) 70) = W1) : SO w W1 x sP sB := by
  subst h
  exact ⟨new1 w _ _, below_a1 w _⟩
theorem SO.on {w W W' : World} {x : Ob} {sP sB : Value} (h : SO w W x sP sB) (b : Below W.heap.size W W') : SO w W' x sP sB :=
  ⟨(b.block _ (Array.getElem?_eq_some_iff.1 h.k).1).trans h.k, h.b.trans (b.mono h.b.size)⟩
theorem SO.drew {w W : World} {x : Ob} {sP sB : Value} (h : SO w W x sP sB) : SO w W.drew x sP sB := ⟨h.k, h.b.drew⟩
theorem SO.cell {w W : World} {x : Ob} {sP sB : Value} (h : SO w W x sP sB) {k : Nat} {u : Value} (hv : (celO x sP sB)[k]? = some u) : W.cell? ⟨w.heap.size, k, none⟩ = some u := (cell_of_row W _ k _ _ _ h.k).trans hv
theorem ldO {ops : Array Oper} {rest : List Oper} {o : Oper} {a : Act} {w : World} {Q : Exit → Act → World → Prop} {x : Operand} {g k : Nat} {y : Ob} {sP sB : Value} (hg : w.heap[g]? = some (.cells (celO y sP sB) 70 (0, 0))) (hd : o.dst = some k) (hw : Region.wanted o (yielded ops a.tmps) = true) (ho : o.op = .load 70 x)
    (hx : a.eval x = .pointer (some ⟨g, 0, none⟩)) (h : wpList Tryz.prog ops Q rest (a.put (some k) (.agg (celO y sP sB))) w) : wpList Tryz.prog ops Q (o :: rest) a w := by
  refine wpList_wanted hw ?_
  unfold Oper.wp execOp
  simp only [ho, hx, Instr.loadAt, Instr.sureAddr, Sem.run_bind, Sem.run_pure, Result.andThen_ok, run_loadVar_row w g 70 70 (celO y sP sB) (0, 0) _ hg Tryz.underlying70 rfl (by kernel_rfl)]
  show wpList Tryz.prog ops Q rest (a.put o.dst (.agg (celO y sP sB))) w
  rw [hd]
  exact h
theorem ldPr_run {o : Oper} {a : Act} {w0 w : World} {x : Operand} {y : Ob} {sP sB : Value} (hS : SO w0 w y sP sB) (ho : o.op = .load 57 x) (hx : a.eval x = .pointer (some ⟨w0.heap.size, 4, none⟩)) : (execOp a.eval o).run Tryz.prog w = .ok (.value (valV y.pr)) w := by
  unfold execOp
  have h := run_load_seg (P := Tryz.prog) w w0.heap.size 4 5 70 57 (celO y sP sB) (0, 0) _ hS.k Tryz.underlying57 rfl (by kernel_rfl) (by show 4 + 5 ≤ 13; omega)
  simp only [ho, hx, Instr.loadAt, Instr.sureAddr, Sem.run_bind, Sem.run_pure, Result.andThen_ok, h]
  rfl
end Go.Proofs.YtmlgjijjkikkhaaGreatDoor
