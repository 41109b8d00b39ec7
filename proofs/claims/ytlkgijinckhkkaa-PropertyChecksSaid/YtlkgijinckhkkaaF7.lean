/-
  The reference's Full of a descriptor.
-/
import Derived.Test.YtlkgijinckhkkaaF6
namespace Go.Proofs.Ytlkgijinckhkkaa
open Go.RowKit
def zVal : Val := ⟨0, false, 0, ⟨#[]⟩, 0⟩
def zPrp : Prp := ⟨0, zVal, zVal, zVal, false, false, false⟩
def orB (a b : Int) : Int := bits BinOp.or IntKind.i64 a b
theorem celP_zero : #[.int .i64 0, .int .i64 0, .bool false, .float .f64 0, .string ⟨#[]⟩, .int .i64 0, .int .i64 0, .bool false, .float .f64 0, .string ⟨#[]⟩, .int .i64 0, .int .i64 0, .bool false, .float .f64 0, .string ⟨#[]⟩, .int .i64 0, .bool false, .bool false, .bool false] = celP zPrp := rfl
theorem Blk.frozen {w : World} {g : Nat} {p : Prp} (h : Blk w g p) (k : Nat) : w.frozen? ⟨g, k, none⟩ = false := by
  unfold Blk at h
  simp [World.frozen?, h]
theorem Blk.set0 {w : World} {g : Nat} {p : Prp} (h : Blk w g p) (x : Int) : Blk (w.setCell ⟨g, 0, none⟩ (.int .i64 x)) g { p with ph := x } := by
  have := heap_setCell_same w g 0 _ _ (.int .i64 x) h
  exact this
theorem Blk.other {w : World} {g k i : Nat} {p : Prp} {v : Value} (h : Blk w g p) (hk : g ≠ k) : Blk (w.setCell ⟨k, i, none⟩ v) g p := (heap_setCell_other w ⟨k, i, none⟩ g v hk).trans h
theorem setCell_size (w : World) (a : Addr) (v : Value) : (w.setCell a v).heap.size = w.heap.size := by simp only [World.setCell, Array.size_modify]
theorem S2.set0 {w W : World} {p q : Prp} (h : S2 w W p q) (x : Int) : S2 w (W.setCell ⟨w.heap.size, 0, none⟩ (.int .i64 x)) { p with ph := x } q :=
  ⟨h.k.set0 x, h.k2.other (by omega), by rw [setCell_size]; exact h.l, h.b.setCell (Nat.le_refl _) _⟩
theorem S2.row {w W : World} {p q : Prp} (h : S2 w W p q) (r : Prp) : S2 w (W.setRow (w.heap.size + 1) (celP r)) p r :=
  ⟨(setRow_other _ _ _ _ (by omega)).trans h.k, setRow_heap _ _ _ _ _ _ h.k2, by rw [setRow_size]; exact h.l, below_setRowK h.b (by omega) _⟩
theorem stP {ops : Array Oper} {rest : List Oper} {o : Oper} {a : Act} {w : World} {Q : Exit → Act → World → Prop} {x y : Operand} {g : Nat} {p old : Prp} (hg : Blk w g old) (hgd : o.guard = none) (ho : o.op = .store 26 x y)
    (hx : a.eval x = .pointer (some ⟨g, 0, none⟩)) (hy : a.eval y = .agg (celP p)) (hd : o.dst = none) (h : wpList Try.prog ops Q rest a (w.setRow g (celP p))) : wpList Try.prog ops Q (o :: rest) a w :=
  wpList_store_row hgd 26 x y ho g (celP p) hx hy 26 (celP old) hg (by kernel_rfl) rfl (by kernel_rfl) (by rw [hd]; exact h)
theorem prR {fn : Func} {s : Tmp} {R : Ending → World → Prop} {a : Act} {w : World} {g : Nat} {p : Prp} (hG : Blk w g p) (hr : fn.results = #[.cell s 26]) (ha : a.tmps.getD s undef = .pointer (some ⟨g, 0, none⟩)) (hd : a.defers = []) (hR : R (.returned (prpV p)) w) : bodyPost Try.prog fn R .ret a w :=
  bodyPost_ret (results_cellV hr _ _ _ _ _ ha (run_loadVar_row _ g 26 26 _ (0, 0) _ hG Try.underlying26 rfl (by kernel_rfl))) hd hR
theorem prR2 {fn : Func} {s t : Tmp} {R : Ending → World → Prop} {a : Act} {w : World} {g : Nat} {p : Prp} (hG : Blk w g p) (hr : fn.results = #[.cell s 26, .tmp t]) (ha : a.tmps.getD s undef = .pointer (some ⟨g, 0, none⟩)) (hd : a.defers = []) (hR : R (.returned (.tuple #[prpV p, a.tmps.getD t undef])) w) : bodyPost Try.prog fn R .ret a w :=
  bodyPost_ret (results_cellV2 hr _ _ _ _ _ ha (run_loadVar_row _ g 26 26 _ (0, 0) _ hG Try.underlying26 rfl (by kernel_rfl))) hd hR
def fullP (p : Prp) : Prp := if hasB p.ph 6 = true then { p with ph := orB (orB p.ph 6) 48 } else { p with ph := orB (orB p.ph 9) 48 }
set_option maxRecDepth 100000 in
set_option maxHeartbeats 1000000 in
theorem hFull_any (p : Prp) (w : World) : Calls Try.prog 15 #[prpV p] w fun e w' => e = .returned (prpV (fullP p)) ∧ Below w.heap.size w w' := by
  have CA := fun W => hAccessor_any p W
  unfold fullP
  obtain ⟨ha, e_ha⟩ : ∃ b, hasB p.ph 6 = b := ⟨_, rfl⟩
  rw [e_ha] at CA ⊢
  clear e_ha
  have CA := Lib.hid CA
  have e0 := show prpV p = .agg (celP p) from rfl
  rw [e0] at CA ⊢
  clear e0
  cases ha
  case false =>
    rw [if_neg (by simp)]
    go_enter Try.func15, Try.ntmps15
    go_upto_region 1 with fail
    rw [celP_zero]
    obtain ⟨W1, hW1⟩ : ∃ W1, w.alloc (.cells (celP p) 26) = W1 := ⟨_, rfl⟩
    rw [hW1]
    obtain ⟨W2, hW2⟩ : ∃ W2, W1.alloc (.cells (celP zPrp) 26) = W2 := ⟨_, rfl⟩
    have HS := Lib.hid (S2.new hW1 hW2)
    rw [hW2]
    clear hW1 hW2
    go_wp2_with (refine ldP (k := 3) HS.out.k rfl (by kernel_rfl) rfl rfl ?_)
    with_reducible refine (CA.out _).mono ?_
    rintro e w2 ⟨rfl, b2⟩
    have HT := HS; clear HS
    have HS := Lib.hid (HT.out.step b2)
    clear HT b2
    obtain ⟨a0, a16, a17, a18, d0, d16, d17, d18⟩ := HS.out.cs
    have fz := HS.out.k.frozen 0
    clear a16 a17 a18 d0 d16 d17 d18
    have HF := Lib.hid (HS.out.set0 (orB (orB p.ph 9) 48))
    have HR := Lib.hid (HF.out.row { p with ph := orB (orB p.ph 9) 48 })
    go_wp2_with (first | (refine ldP (k := 15) HF.out.k rfl (by kernel_rfl) rfl rfl ?_) | (refine stP HF.out.k2 rfl rfl rfl rfl rfl ?_))
    refine prR HR.out.k2 rfl rfl rfl ⟨rfl, HR.out.b⟩
  case true =>
    rw [if_pos rfl]
    go_enter Try.func15, Try.ntmps15
    go_upto_region 1 with fail
    rw [celP_zero]
    obtain ⟨W1, hW1⟩ : ∃ W1, w.alloc (.cells (celP p) 26) = W1 := ⟨_, rfl⟩
    rw [hW1]
    obtain ⟨W2, hW2⟩ : ∃ W2, W1.alloc (.cells (celP zPrp) 26) = W2 := ⟨_, rfl⟩
    have HS := Lib.hid (S2.new hW1 hW2)
    rw [hW2]
    clear hW1 hW2
    go_wp2_with (refine ldP (k := 3) HS.out.k rfl (by kernel_rfl) rfl rfl ?_)
    with_reducible refine (CA.out _).mono ?_
    rintro e w2 ⟨rfl, b2⟩
    have HT := HS; clear HS
    have HS := Lib.hid (HT.out.step b2)
    clear HT b2
    obtain ⟨a0, a16, a17, a18, d0, d16, d17, d18⟩ := HS.out.cs
    have fz := HS.out.k.frozen 0
    clear a16 a17 a18 d0 d16 d17 d18
    have HF := Lib.hid (HS.out.set0 (orB (orB p.ph 6) 48))
    have HR := Lib.hid (HF.out.row { p with ph := orB (orB p.ph 6) 48 })
    go_wp2_with (first | (refine ldP (k := 15) HF.out.k rfl (by kernel_rfl) rfl rfl ?_) | (refine stP HF.out.k2 rfl rfl rfl rfl rfl ?_))
    refine prR HR.out.k2 rfl rfl rfl ⟨rfl, HR.out.b⟩
end Go.Proofs.Ytlkgijinckhkkaa
