/-
  Values' blocks: parameters as they lie in memory, and loads of them as a whole.
-/
import Derived.Deep.DeepCutAuto
import Derived.BigQuiet
import Derived.Deep.RegionHeld3
import Derived.Laws.StructEq
import Derived.Deep.WholeRow
import Derived.Laws.Rows
import Derived.Laws.Tables
import Derived.Laws.EntriesVeiled
import Derived.Laws.FloatArith
import Derived.Laws.Externs
import Derived.Deep.RegionWith
import Ieee.Arith
import GoSem.Core.Float
import GoSem.Core.Utf8
import Derived.WalkKit
import Derived.WalkSpells
import Derived.WalkLawsBesides
import Derived.Deep.QuietTactic
import Derived.Lib.Hide
import Derived.Deep.OwnRows
import Derived.Laws.CopyOwn
import Derived.Deep.AppendLies
import Derived.Lib.BitFns
import Derived.Lib.Strings
import Derived.Laws.BitsAllLaws
import Derived.Lib.LaidTab
import Derived.Lib.ItoaNum
import Derived.ProofKit
import Derived.OpenShut
import Derived.SizedLaws
import Derived.Laws.BytesString
import Derived.Laws.Cells
import Derived.BigRegion
import Derived.Test.YtmlgjijjkikkhaaGreatDoorProg
import Derived.Test.YtmlgjijjkikkhaaGreatDoorRows
import Derived.Test.YtmlgjijjkikkhaaGreatDoorShelf
import Derived.Test.YtmlgjijjkikkhaaGreatDoorF3
namespace Go.Proofs.YtmlgjijjkikkhaaGreatDoor
open Go.RowKit
theorem stF {P : Program} (a : Addr) (n : Nat) (m : Mode) (w : World) : (store a (.float .f64 n) m).run P w = stored P w a (.float .f64 n) m := run_store P w a _ m rfl
theorem wpList_wanted {P : Program} {ops : Array Oper} {rest : List Oper} {o : Oper} {a : Act} {w : World} {Q : Exit → Act → World → Prop} (hw : Region.wanted o (yielded ops a.tmps) = true) (h : o.wp P a w (wpList P ops Q rest) Q) : wpList P ops Q (o :: rest) a w := by
  unfold wpList
  rw [if_pos hw]
  exact .inl h
/-- A block that holds a value. -/
def BlkV (w : World) (g : Nat) (v : Val) : Prop := w.heap[g]? = some (.cells (celV v) 57 (0, 0))
theorem ldX {ops : Array Oper} {rest : List Oper} {o : Oper} {a : Act} {w : World} {Q : Exit → Act → World → Prop} {x : Operand} {g k : Nat} {v : Val} (hg : BlkV w g v) (hd : o.dst = some k) (hw : Region.wanted o (yielded ops a.tmps) = true) (ho : o.op = .load 57 x)
    (hx : a.eval x = .pointer (some ⟨g, 0, none⟩)) (h : wpList Tryz.prog ops Q rest (a.put (some k) (.agg (celV v))) w) : wpList Tryz.prog ops Q (o :: rest) a w := by
  refine wpList_wanted hw ?_
  unfold Oper.wp execOp
  simp only [ho, hx, Instr.loadAt, Instr.sureAddr, Sem.run_bind, Sem.run_pure, Result.andThen_ok, run_loadVar_row w g 57 57 (celV v) (0, 0) _ hg Tryz.underlying57 rfl (by kernel_rfl)]
  show wpList Tryz.prog ops Q rest (a.put o.dst (.agg (celV v))) w
  rw [hd]
  exact h
theorem ldX_run {o : Oper} {a : Act} {w : World} {x : Operand} {g : Nat} {v : Val} (hg : BlkV w g v) (ho : o.op = .load 57 x) (hx : a.eval x = .pointer (some ⟨g, 0, none⟩)) : (execOp a.eval o).run Tryz.prog w = .ok (.value (.agg (celV v))) w := by
  unfold execOp
  simp only [ho, hx, Instr.loadAt, Instr.sureAddr, Sem.run_bind, Sem.run_pure, Result.andThen_ok, run_loadVar_row w g 57 57 (celV v) (0, 0) _ hg Tryz.underlying57 rfl (by kernel_rfl)]
theorem BlkV.cell {w : World} {g k : Nat} {v : Val} {u : Value} (h : BlkV w g v) (hv : (celV v)[k]? = some u) : w.cell? ⟨g, k, none⟩ = some u := (cell_of_row w g k _ _ _ h).trans hv
theorem BlkV.below {w w' : World} {g B : Nat} {v : Val} (h : BlkV w g v) (hb : Below B w w') (hg : g < B) : BlkV w' g v := (hb.block g hg).trans h
theorem blkV_new {w W1 : World} {v : Val} (h : w.alloc (.cells (celV v) 57) = W1) : BlkV W1 w.heap.size v ∧ Below w.heap.size w W1 ∧ W1.heap.size = w.heap.size + 1 := by
  subst h
  exact ⟨heap_alloc_last _ _, below_a1 _ _, by simp⟩
/-- A value's block, and what lay there as it lay. -/
structure T1 (w W : World) (x : Val) : Prop where
  k : BlkV W w.heap.size x
  l : w.heap.size < W.heap.size
  b : Below w.heap.size w W
theorem T1.new {w W1 : World} {x : Val} (h : w.alloc (.cells (celV x) 57) = W1) : T1 w W1 x := by
  obtain ⟨a, b, c⟩ := blkV_new h
  exact ⟨a, by omega, b⟩
theorem T1.step {w W W' : World} {x : Val} (h : T1 w W x) (hb : Below W.heap.size W W') : T1 w W' x :=
  ⟨h.k.below hb h.l, Nat.lt_of_lt_of_le h.l hb.size, below_le h.b hb⟩
theorem T1.drew {w W : World} {x : Val} (h : T1 w W x) : T1 w W.drew x := ⟨h.k, h.l, below_drewN' h.b 1⟩
theorem T1.cs {w W : World} {x : Val} (h : T1 w W x) : W.cell? ⟨w.heap.size, 0, none⟩ = some (.int .i64 x.vk) ∧ W.cell? ⟨w.heap.size, 1, none⟩ = some (.bool x.vb) ∧ W.cell? ⟨w.heap.size, 2, none⟩ = some (.float .f64 x.vn) ∧ W.cell? ⟨w.heap.size, 3, none⟩ = some (.string x.vs) ∧ W.cell? ⟨w.heap.size, 4, none⟩ = some (.int .i64 x.vo) :=
  ⟨h.k.cell rfl, h.k.cell rfl, h.k.cell rfl, h.k.cell rfl, h.k.cell rfl⟩
/-- Two values' blocks. -/
structure T2 (w W : World) (x y : Val) : Prop where
  k : BlkV W w.heap.size x
  k2 : BlkV W (w.heap.size + 1) y
  l : w.heap.size + 1 < W.heap.size
  b : Below w.heap.size w W
theorem T2.new {w W1 W2 : World} {x y : Val} (h : w.alloc (.cells (celV x) 57) = W1) (g : W1.alloc (.cells (celV y) 57) = W2) : T2 w W2 x y := by
  obtain ⟨a, b, c⟩ := blkV_new h
  obtain ⟨a2, b2, c2⟩ := blkV_new g
  rw [c] at a2
  exact ⟨a.below b2 (by omega), a2, by omega, below_le b b2⟩
theorem T2.step {w W W' : World} {x y : Val} (h : T2 w W x y) (hb : Below W.heap.size W W') : T2 w W' x y :=
  ⟨h.k.below hb (by have := h.l; omega), h.k2.below hb h.l, Nat.lt_of_lt_of_le h.l hb.size, below_le h.b hb⟩
theorem T2.drew {w W : World} {x y : Val} (h : T2 w W x y) : T2 w W.drew x y := ⟨h.k, h.k2, h.l, below_drewN' h.b 1⟩
theorem T2.cs {w W : World} {x y : Val} (h : T2 w W x y) : W.cell? ⟨w.heap.size, 0, none⟩ = some (.int .i64 x.vk) ∧ W.cell? ⟨w.heap.size, 1, none⟩ = some (.bool x.vb) ∧ W.cell? ⟨w.heap.size, 2, none⟩ = some (.float .f64 x.vn) ∧ W.cell? ⟨w.heap.size, 3, none⟩ = some (.string x.vs) ∧ W.cell? ⟨w.heap.size, 4, none⟩ = some (.int .i64 x.vo) ∧
    W.cell? ⟨w.heap.size + 1, 0, none⟩ = some (.int .i64 y.vk) ∧ W.cell? ⟨w.heap.size + 1, 1, none⟩ = some (.bool y.vb) ∧ W.cell? ⟨w.heap.size + 1, 2, none⟩ = some (.float .f64 y.vn) ∧ W.cell? ⟨w.heap.size + 1, 3, none⟩ = some (.string y.vs) ∧ W.cell? ⟨w.heap.size + 1, 4, none⟩ = some (.int .i64 y.vo) :=
  ⟨h.k.cell rfl, h.k.cell rfl, h.k.cell rfl, h.k.cell rfl, h.k.cell rfl, h.k2.cell rfl, h.k2.cell rfl, h.k2.cell rfl, h.k2.cell rfl, h.k2.cell rfl⟩

end Go.Proofs.YtmlgjijjkikkhaaGreatDoor
