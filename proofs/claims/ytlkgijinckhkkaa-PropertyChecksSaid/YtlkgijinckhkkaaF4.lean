/-
  Descriptors as plain data, and the reference's small functions on them.
-/
import Derived.Test.YtlkgijinckhkkaaT0
namespace Go.Proofs.Ytlkgijinckhkkaa
open Go.RowKit
/-- A descriptor: which parts it has, its value, getter and setter, and what may be done. -/
structure Prp where
  ph : Int
  pv : Val
  pg : Val
  pt : Val
  pw : Bool
  pe : Bool
  pc : Bool
def celP (p : Prp) : Array Value := #[.int .i64 p.ph, .int .i64 p.pv.vk, .bool p.pv.vb, .float .f64 p.pv.vn, .string p.pv.vs, .int .i64 p.pv.vo, .int .i64 p.pg.vk, .bool p.pg.vb, .float .f64 p.pg.vn, .string p.pg.vs, .int .i64 p.pg.vo, .int .i64 p.pt.vk, .bool p.pt.vb, .float .f64 p.pt.vn, .string p.pt.vs, .int .i64 p.pt.vo, .bool p.pw, .bool p.pe, .bool p.pc]
def prpV (p : Prp) : Value := .agg (celP p)
/-- A block that holds a descriptor. -/
def Blk (w : World) (g : Nat) (p : Prp) : Prop := w.heap[g]? = some (.cells (celP p) 26 (0, 0))
/-- Has a descriptor one of some bits? -/
def hasB (h m : Int) : Bool := bits BinOp.and IntKind.i64 h m != 0
theorem run_load_seg {P : Program} (w : World) (g off n : Nat) (t ty : TypeId) (cs : Array Value) (fr : Nat × Nat) (d : TypeDesc) (hg : w.heap[g]? = some (.cells cs t fr))
    (hu : P.underlying ty = some d) (hd : (match d with | .struct _ | .array _ _ => true | _ => false) = true) (hi : (P.info? ty).map (·.size) = some n) (hn : off + n ≤ cs.size) :
    (loadVar ty ⟨g, off, none⟩).run P w = .ok (.agg (cs.extract off (off + n))) w := by
  have hsz : (cs.extract off (off + n)).toList.length = n := by simp; omega
  have hl : (loadCells ⟨g, off, none⟩ (cs.extract off (off + n)).toList.length).run P w = .ok (cs.extract off (off + n)).toList.toArray w :=
    run_loadCells_list (P := P) w ⟨g, off, none⟩ (cs.extract off (off + n)).toList (fun j v hv => by
      have hadd : (⟨g, off, none⟩ : Addr).add j = ⟨g, off + j, none⟩ := by unfold Addr.add; split <;> simp_all
      have hj : j < n := by
        rw [← hsz]
        exact (List.getElem?_eq_some_iff.1 hv).1
      rw [hadd, cell_of_row w g (off + j) cs t fr hg]
      rw [Array.getElem?_toList, Array.getElem?_extract_of_lt (by omega)] at hv
      rw [Array.getElem?_eq_getElem (by omega)]
      exact hv)
  cases hq : P.info? ty with
  | none => simp [hq] at hi
  | some i =>
    have hs : i.size = n := by simpa [hq] using hi
    have hagg : (isAgg ty).run P w = .ok true w := by
      unfold isAgg
      rw [Sem.run_bind, run_underlying hu w]
      cases d <;> simp_all
    rw [hsz, Array.toArray_toList] at hl
    simp [loadVar, Sem.run_bind, hagg, sizeOf, typeInfo, hq, hs, hl]
theorem ldP {ops : Array Oper} {rest : List Oper} {o : Oper} {a : Act} {w : World} {Q : Exit → Act → World → Prop} {x : Operand} {g k : Nat} {p : Prp} (hg : Blk w g p) (hd : o.dst = some k) (hw : Region.wanted o (yielded ops a.tmps) = true) (ho : o.op = .load 26 x)
    (hx : a.eval x = .pointer (some ⟨g, 0, none⟩)) (h : wpList Try.prog ops Q rest (a.put (some k) (.agg (celP p))) w) : wpList Try.prog ops Q (o :: rest) a w := by
  refine wpList_wanted hw ?_
  unfold Oper.wp execOp
  simp only [ho, hx, Instr.loadAt, Instr.sureAddr, Sem.run_bind, Sem.run_pure, Result.andThen_ok, run_loadVar_row w g 26 26 (celP p) (0, 0) _ hg Try.underlying26 rfl (by kernel_rfl)]
  show wpList Try.prog ops Q rest (a.put o.dst (.agg (celP p))) w
  rw [hd]
  exact h
theorem ldV {ops : Array Oper} {rest : List Oper} {o : Oper} {a : Act} {w : World} {Q : Exit → Act → World → Prop} {x : Operand} {g off k : Nat} {p : Prp} {v : Val} (hg : Blk w g p) (hd : o.dst = some k) (hv : (celP p).extract off (off + 5) = celV v) (hn : off + 5 ≤ 19) (hw : Region.wanted o (yielded ops a.tmps) = true) (ho : o.op = .load 24 x)
    (hx : a.eval x = .pointer (some ⟨g, off, none⟩)) (h : wpList Try.prog ops Q rest (a.put (some k) (valV v)) w) : wpList Try.prog ops Q (o :: rest) a w := by
  refine wpList_wanted hw ?_
  unfold Oper.wp execOp
  simp only [ho, hx, Instr.loadAt, Instr.sureAddr, Sem.run_bind, Sem.run_pure, Result.andThen_ok, run_load_seg w g off 5 26 24 (celP p) (0, 0) _ hg Try.underlying24 rfl (by kernel_rfl) hn, hv]
  show wpList Try.prog ops Q rest (a.put o.dst (valV v)) w
  rw [hd]
  exact h
theorem Blk.cell {w : World} {g k : Nat} {p : Prp} {v : Value} (h : Blk w g p) (hv : (celP p)[k]? = some v) : w.cell? ⟨g, k, none⟩ = some v := (cell_of_row w g k _ _ _ h).trans hv
theorem Blk.below {w w' : World} {g B : Nat} {p : Prp} (h : Blk w g p) (hb : Below B w w') (hg : g < B) : Blk w' g p := (hb.block g hg).trans h
/-- A block laid for a parameter. -/
theorem blk_new {w W1 : World} {p : Prp} (h : w.alloc (.cells (celP p) 26) = W1) : Blk W1 w.heap.size p ∧ Below w.heap.size w W1 ∧ W1.heap.size = w.heap.size + 1 := by
  subst h
  exact ⟨heap_alloc_last _ _, below_a1 _ _, by simp⟩
set_option maxRecDepth 100000 in
set_option maxHeartbeats 1000000 in
theorem hhas_any (p : Prp) (m : Int) (w : World) : Calls Try.prog 24 #[prpV p, .int .i64 m] w fun e w' => e = .returned (.bool (hasB p.ph m)) ∧ Below w.heap.size w w' := by
  unfold prpV hasB
  go_enter Try.func24, Try.ntmps24
  go_upto_region 1 with fail
  obtain ⟨W1, hW1⟩ : ∃ W1, w.alloc (.cells (celP p) 26) = W1 := ⟨_, rfl⟩
  obtain ⟨hk, hb, _⟩ := blk_new hW1
  have c0 := hk.cell (k := 0) (v := .int .i64 p.ph) rfl
  have HB := Lib.hid hb
  rw [hW1]
  clear hW1 hk hb
  go_wp2
  go_ret
  exact ⟨rfl, HB.out⟩
set_option maxRecDepth 100000 in
set_option maxHeartbeats 1000000 in
theorem hAccessor_any (p : Prp) (w : World) : Calls Try.prog 10 #[prpV p] w fun e w' => e = .returned (.bool (hasB p.ph 6)) ∧ Below w.heap.size w w' := by
  have C1 := Lib.hid (fun W => hhas_any p 6 W)
  unfold prpV at C1 ⊢
  go_enter Try.func10, Try.ntmps10
  go_upto_region 1 with fail
  obtain ⟨W1, hW1⟩ : ∃ W1, w.alloc (.cells (celP p) 26) = W1 := ⟨_, rfl⟩
  obtain ⟨hk, hb, _⟩ := blk_new hW1
  have HK := Lib.hid hk
  have HB := Lib.hid hb
  rw [hW1]
  clear hW1 hk hb
  go_wp2_with (refine ldP (k := 3) HK.out rfl (by kernel_rfl) rfl rfl ?_)
  with_reducible refine (C1.out _).mono ?_
  rintro e w2 ⟨rfl, b2⟩
  go_wp2
  go_ret
  exact ⟨rfl, below_le HB.out b2⟩
set_option maxRecDepth 100000 in
set_option maxHeartbeats 1000000 in
theorem hData_any (p : Prp) (w : World) : Calls Try.prog 12 #[prpV p] w fun e w' => e = .returned (.bool (hasB p.ph 9)) ∧ Below w.heap.size w w' := by
  have C1 := Lib.hid (fun W => hhas_any p 9 W)
  unfold prpV at C1 ⊢
  go_enter Try.func12, Try.ntmps12
  go_upto_region 1 with fail
  obtain ⟨W1, hW1⟩ : ∃ W1, w.alloc (.cells (celP p) 26) = W1 := ⟨_, rfl⟩
  obtain ⟨hk, hb, _⟩ := blk_new hW1
  have HK := Lib.hid hk
  have HB := Lib.hid hb
  rw [hW1]
  clear hW1 hk hb
  go_wp2_with (refine ldP (k := 3) HK.out rfl (by kernel_rfl) rfl rfl ?_)
  with_reducible refine (C1.out _).mono ?_
  rintro e w2 ⟨rfl, b2⟩
  go_wp2
  go_ret
  exact ⟨rfl, below_le HB.out b2⟩
end Go.Proofs.Ytlkgijinckhkkaa
