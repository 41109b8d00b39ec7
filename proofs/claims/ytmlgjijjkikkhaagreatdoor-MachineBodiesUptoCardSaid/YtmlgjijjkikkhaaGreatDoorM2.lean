/-
  A machine: what is known; one more object without properties.
-/
import Derived.Test.YtmlgjijjkikkhaaGreatDoorM1
namespace Go.Proofs.YtmlgjijjkikkhaaGreatDoor
open Go.RowKit
attribute [local go_sem] stF neqM eqS
theorem results_tc {fn : Func} {p q : Tmp} {ty : TypeId} (h : fn.results = #[.tmp q, .cell p ty]) (tmps : Array Value) (P : Program) (w : World) (a : Addr) (v : Value) (ha : tmps.getD p undef = .pointer (some a)) (hl : (loadVar ty a).run P w = .ok v w) :
    (results fn tmps).run P w = .ok (.tuple #[tmps.getD q undef, v]) w := by
  simp only [results, h]
  simp [-Array.getD_eq_getD_getElem?, ha, asAddr, hl]
theorem cRt {P : Program} {fn : Func} {p q : Tmp} {ty : TypeId} {R : Ending → World → Prop} {a : Act} {w : World} {g : Nat} {v : Value} (hr : fn.results = #[.tmp q, .cell p ty]) (ha : a.tmps.getD p undef = .pointer (some ⟨g, 0, none⟩)) (hl : (loadVar ty ⟨g, 0, none⟩).run P w = .ok v w) (hd : a.defers = []) (hR : R (.returned (.tuple #[a.tmps.getD q undef, v])) w) : bodyPost P fn R .ret a w :=
  bodyPost_ret (results_tc hr _ _ _ _ _ ha hl) hd hR
theorem cR1 {P : Program} {fn : Func} {p : Tmp} {ty : TypeId} {R : Ending → World → Prop} {a : Act} {w : World} {g : Nat} {v : Value} (hr : fn.results = #[.cell p ty]) (ha : a.tmps.getD p undef = .pointer (some ⟨g, 0, none⟩)) (hl : (loadVar ty ⟨g, 0, none⟩).run P w = .ok v w) (hd : a.defers = []) (hR : R (.returned v) w) : bodyPost P fn R .ret a w :=
  bodyPost_ret (results_cellV hr _ _ _ _ _ ha hl) hd hR
theorem setRow_same {w : World} {g : Nat} {c : Array Value} {t : TypeId} {fr : Nat × Nat} (h : w.heap[g]? = some (.cells c t fr)) : w.setRow g c = w := by
  have e : (w.setRow g c).heap = w.heap := by
    apply Array.ext_getElem?
    intro i
    by_cases hi : i = g
    · subst hi; rw [setRow_heap _ _ _ _ _ _ h, h]
    · rw [setRow_other _ _ _ _ hi]
  cases w
  simp only [World.setRow] at e ⊢
  rw [e]
/-- One still operation that tells a value. -/
theorem still_val {P : Program} {ops : Array Oper} {w : World} {Q : Act → Prop} {a : Act} {o : Oper} {rest : List Oper} {v : Value} {k : Nat} (hd : o.dst = some k) (hw : Region.wanted o (yielded ops a.tmps) = true) (h : (execOp a.eval o).run P w = .ok (.value v) w) (hn : wpStill P ops w Q rest (a.put (some k) v)) : wpStill P ops w Q (o :: rest) a := by
  refine wpStill_step (fun K hK => ?_)
  rw [if_pos hw]
  unfold Oper.still
  rw [h, Oper.stillUpon_value, hd]
  exact hK _ hn
/-- A whole block is loaded. -/
theorem ldRow_run {o : Oper} {a : Act} {w : World} {x : Operand} {g : Nat} {ty : TypeId} {v : Value} (hl : (loadVar ty ⟨g, 0, none⟩).run Tryz.prog w = .ok v w) (ho : o.op = .load ty x) (hx : a.eval x = .pointer (some ⟨g, 0, none⟩)) : (execOp a.eval o).run Tryz.prog w = .ok (.value v) w := by
  unfold execOp
  simp only [ho, hx, Instr.loadAt, Instr.sureAddr, Sem.run_bind, Sem.run_pure, Result.andThen_ok, hl]
set_option maxRecDepth 100000 in
set_option maxHeartbeats 1000000 in
theorem known_0 {w : World} {m : Nat} {x : Mx} (h : Mc w m x) : Calls Tryz.prog 14 #[.pointer (some ⟨m, 0, none⟩), .int .i64 0] w fun e w' => e = .returned (.int .i64 (x.kn 0)) ∧ w = w' := by
  have c1 : w.cell? ⟨m, 8, none⟩ = some (.int .i64 (x.kn 0)) := h.cell rfl
  have C1 := Lib.hid (there_m h)
  clear h
  go_enter Tryz.func14, Tryz.ntmps14
  go_wp2_with fail
  refine C1.out.mono ?_
  rintro e w' ⟨rfl, rfl⟩
  clear C1
  go_wp2
  go_ret
  exact ⟨rfl, rfl⟩
set_option maxRecDepth 100000 in
set_option maxHeartbeats 1000000 in
theorem known_14 {w : World} {m : Nat} {x : Mx} (h : Mc w m x) : Calls Tryz.prog 14 #[.pointer (some ⟨m, 0, none⟩), .int .i64 14] w fun e w' => e = .returned (.int .i64 (x.kn 14)) ∧ w = w' := by
  have c1 : w.cell? ⟨m, 22, none⟩ = some (.int .i64 (x.kn 14)) := h.cell rfl
  have C1 := Lib.hid (there_m h)
  clear h
  go_enter Tryz.func14, Tryz.ntmps14
  go_wp2_with fail
  refine C1.out.mono ?_
  rintro e w' ⟨rfl, rfl⟩
  clear C1
  go_wp2
  go_ret
  exact ⟨rfl, rfl⟩
set_option maxRecDepth 100000 in
set_option maxHeartbeats 1000000 in
theorem known_neg {w : World} {m : Nat} {x : Mx} (h : Mc w m x) : Calls Tryz.prog 14 #[.pointer (some ⟨m, 0, none⟩), .int .i64 (-1)] w fun e w' => e = .returned (.int .i64 (-1)) ∧ w = w' := by
  have C1 := Lib.hid (there_m h)
  clear h
  go_enter Tryz.func14, Tryz.ntmps14
  go_wp2_with fail
  refine C1.out.mono ?_
  rintro e w' ⟨rfl, rfl⟩
  clear C1
  go_wp2
  go_ret
  exact ⟨rfl, rfl⟩
set_option maxRecDepth 100000 in
set_option maxHeartbeats 1000000 in
theorem known_15 {w : World} {m : Nat} {x : Mx} (h : Mc w m x) : Calls Tryz.prog 14 #[.pointer (some ⟨m, 0, none⟩), .int .i64 (15)] w fun e w' => e = .returned (.int .i64 (-1)) ∧ w = w' := by
  have C1 := Lib.hid (there_m h)
  clear h
  go_enter Tryz.func14, Tryz.ntmps14
  go_wp2_with fail
  refine C1.out.mono ?_
  rintro e w' ⟨rfl, rfl⟩
  clear C1
  go_wp2
  go_ret
  exact ⟨rfl, rfl⟩
set_option maxRecDepth 100000 in
set_option maxHeartbeats 1000000 in
theorem know_14 {w : World} {m : Nat} {x : Mx} {v : Int} (h : Mc w m x) : Calls Tryz.prog 39 #[.pointer (some ⟨m, 0, none⟩), .int .i64 14, .int .i64 v] w fun e w' => e = .returned (.tuple #[]) ∧ Mc w' m { x with kn := fun k => if k = 14 then v else x.kn k } ∧ Ey w.heap.size m w w' := by
  have c1 : w.cell? ⟨m, 22, none⟩ = some (.int .i64 (x.kn 14)) := h.cell rfl
  have f1 := h.frozen 22
  have H2 := Lib.hid (h.set 22 (.int .i64 v) { x with kn := fun k => if k = 14 then v else x.kn k } rfl)
  have E2 := Lib.hid (ey_set w m 22 (.int .i64 v))
  have C1 := Lib.hid (there_m h)
  clear h
  go_enter Tryz.func39, Tryz.ntmps39
  go_wp2_with fail
  refine C1.out.mono ?_
  rintro e w' ⟨rfl, rfl⟩
  clear C1
  go_wp2
  go_end0
  exact ⟨rfl, H2.out, E2.out⟩
set_option maxRecDepth 100000 in
set_option maxHeartbeats 2000000 in
theorem alloc_m {w : World} {m room used : Nat} {x : Mx} {l : List Nat} {y : Ob} (h : Mc w m x) (ho : x.ov = false) (hm : m ≠ x.hb) (hp : Hp x.hb room used l w) (hu : used + 1 ≤ room) (hy : May0 y l.length) :
    Calls Tryz.prog 24 #[.pointer (some ⟨m, 0, none⟩), .agg (celO y (.slice none 0 0) (.slice none 0 0))] w fun e w' => ∃ t, e = .returned (.tuple #[.int .i64 l.length, .agg zD]) ∧ Mc w' m x ∧ Hp x.hb room (used + 1) (l ++ [t]) w' ∧ HobE w' t y (.slice none 0 0) (.slice none 0 0) ∧ w.heap.size ≤ t ∧ Kh x.hb w w' := by
  have h1 := h.on (below_a2 w (.cells (celO y (.slice none 0 0) (.slice none 0 0)) 70) (.cells zD 63))
  have p1 := hp.on (below_a2 w (.cells (celO y (.slice none 0 0) (.slice none 0 0)) 70) (.cells zD 63))
  have b1 := below_a2 w (.cells (celO y (.slice none 0 0) (.slice none 0 0)) 70) (.cells zD 63)
  have k1 : ((w.alloc (.cells (celO y (.slice none 0 0) (.slice none 0 0)) 70)).alloc (.cells zD 63)).heap[w.heap.size]? = some (.cells (celO y (.slice none 0 0) (.slice none 0 0)) 70 (0, 0)) :=
    ((below_a1 _ _).block _ (by simp)).trans (new1 w _ _)
  have k2 : ((w.alloc (.cells (celO y (.slice none 0 0) (.slice none 0 0)) 70)).alloc (.cells zD 63)).heap[w.heap.size + 1]? = some (.cells zD 63 (0, 0)) := by
    have := new1 (w.alloc (.cells (celO y (.slice none 0 0) (.slice none 0 0)) 70)) zD 63
    simpa using this
  have hl := hp.lt
  clear h hp
  go_enter Tryz.func24, Tryz.ntmps24
  go_upto_region 1 with fail
  obtain ⟨W1, hW1⟩ : ∃ W1, (w.alloc (.cells (celO y (.slice none 0 0) (.slice none 0 0)) 70)).alloc (.cells zD 63) = W1 := ⟨_, rfl⟩
  rw [hW1] at h1 p1 b1 k1 k2 ⊢
  clear hW1
  have C1 := Lib.hid (on_m h1)
  rw [ho] at C1
  go_wp2_with fail
  refine C1.out.mono ?_
  rintro e w' ⟨rfl, rfl⟩
  clear C1
  have c7 : W1.cell? ⟨m, 7, none⟩ = some (.pointer (some ⟨x.hb, 0, none⟩)) := h1.cell rfl
  have C2 := Lib.hid (alloc_e (p1.on (Below.refl _ _).drew) hu hy)
  have K1 := Lib.hid k1
  have K2 := Lib.hid k2
  have H1 := Lib.hid h1
  have B1 := Lib.hid b1
  have HL := Lib.hid hl
  have HM := Lib.hid hm
  clear h1 p1 b1 k1 k2 hu hy hl hm ho
  go_upto_region 3 with fail
  refine wp_region_held_drew (S := fun W => Mc W m x ∧ W.heap[w.heap.size]? = some (.cells (celO y (.slice none 0 0) (.slice none 0 0)) 70 (0, 0))) (by kernel_rfl) ⟨H1.out, K1.out⟩ (fun hHeld => ?_)
  refine take_s (i := 0) rfl (by kernel_rfl) (by kernel_rfl) (by kernel_rfl) (fun _ _ _ h => h) (Or.inl ⟨by rfl, by (intro w' hSw; go_simp; try with_reducible rfl)⟩) rfl (by assumption) ?_; simp only [lset]
  refine take_s (i := 1) rfl (by kernel_rfl) (by kernel_rfl) (by kernel_rfl) (fun _ _ _ h => h) (Or.inl ⟨by rfl, by (intro w' hSw; go_simp; try with_reducible rfl)⟩) rfl (by assumption) ?_; simp only [lset]
  refine take_s (i := 2) rfl (by kernel_rfl) (by kernel_rfl) (by kernel_rfl) (fun _ _ _ h => h) (Or.inl ⟨by rfl, by (intro w' hSw; go_simp; try with_reducible rfl)⟩) rfl (by assumption) ?_; simp only [lset]
  refine take_s (v := .pointer (some ⟨x.hb, 0, none⟩)) (i := 3) rfl (by kernel_rfl) (by kernel_rfl) (by kernel_rfl) (fun _ _ _ h => h) (Or.inl ⟨by rfl, by (intro w' hSw; have c := hSw.1.cell (k := 7) (u := .pointer (some ⟨x.hb, 0, none⟩)) rfl; go_simp)⟩) rfl (by assumption) ?_; simp only [lset]
  refine take_s (v := .agg (celO y (.slice none 0 0) (.slice none 0 0))) (i := 4) rfl (by kernel_rfl) (by kernel_rfl) (by kernel_rfl) (fun _ _ _ h => h) (Or.inl ⟨by rfl, by (intro w' hSw; exact ldRow_run (run_loadVar_row w' w.heap.size 70 70 (celO y (.slice none 0 0) (.slice none 0 0)) (0, 0) _ hSw.2 Tryz.underlying70 rfl (by kernel_rfl)) rfl rfl)⟩) rfl (by assumption) ?_; simp only [lset]
  refine call_s (i := 5) (by kernel_rfl) rfl rfl (by rfl) (fun K hK => ?_)
  go_simp
  with_reducible refine C2.out.mono ?_
  rintro e w2 ⟨t, rfl, p2, t2, ht, kh2⟩
  have hB := Mc.kh (show Mc W1.drew m x from H1.out) kh2 HM.out
  have hK2 : w2.heap[w.heap.size]? = some (.cells (celO y (.slice none 0 0) (.slice none 0 0)) 70 (0, 0)) := kh2.oth _ _ (show W1.drew.heap[w.heap.size]? = _ from K1.out) (by have := HL.out; simp; omega) (by intro c fz e; cases e)
  have R2 := Lib.hid (show w2.heap[w.heap.size + 1]? = some (.cells zD 63 (0, 0)) from kh2.oth _ _ (show W1.drew.heap[w.heap.size + 1]? = _ from K2.out) (by have := HL.out; simp; omega) (by intro c fz e; cases e))
  have HB := Lib.hid hB
  have P2 := Lib.hid p2
  have T2 := Lib.hid t2
  have HT := Lib.hid (show w.heap.size ≤ t by have := B1.out.size; have : W1.drew.heap.size = W1.heap.size := rfl; omega)
  have KK := Lib.hid (show Kh x.hb w w2 from (Kh.of (show Below w.heap.size w W1.drew from B1.out.drew) (by have := HL.out; omega)).trans kh2)
  clear hHeld C2 p2 t2 ht kh2 c7 K1 H1 K2 B1
  have hHeld : Mc w2 m x ∧ w2.heap[w.heap.size]? = some (.cells (celO y (.slice none 0 0) (.slice none 0 0)) 70 (0, 0)) := ⟨hB, hK2⟩
  clear hB hK2
  refine hK.out _ _ hHeld ?_; clear hK K; simp only [lset]
  refine take_s (i := 6) rfl (by kernel_rfl) (by kernel_rfl) (by kernel_rfl) (fun _ _ _ h => h) (Or.inl ⟨by rfl, by (intro w' hSw; go_simp; try with_reducible rfl)⟩) rfl (by assumption) ?_; simp only [lset]
  refine take_s (i := 7) rfl (by kernel_rfl) (by kernel_rfl) (by kernel_rfl) (fun _ _ _ h => h) (Or.inl ⟨by rfl, by (intro w' hSw; go_simp; try with_reducible rfl)⟩) rfl (by assumption) ?_; simp only [lset]
  refine take_s (i := 8) rfl (by kernel_rfl) (by kernel_rfl) (by kernel_rfl) (fun _ _ _ h => h) (Or.inl ⟨by rfl, by (intro w' hSw; go_simp; try with_reducible rfl)⟩) rfl (by assumption) ?_; simp only [lset]
  refine take_s (i := 9) rfl (by kernel_rfl) (by kernel_rfl) (by kernel_rfl) (fun _ _ _ h => h) (Or.inl ⟨by rfl, by (intro w' hSw; go_simp; try with_reducible rfl)⟩) rfl (by assumption) ?_; simp only [lset]
  refine take_s (i := 10) rfl (by kernel_rfl) (by kernel_rfl) (by kernel_rfl) (fun _ _ _ h => h) (Or.inl ⟨by rfl, by (intro w' hSw; go_simp; try with_reducible rfl)⟩) rfl (by assumption) ?_; simp only [lset]
  refine wpAnyH_done (by kernel_rfl) ?_ _
  clear hHeld
  go_wp2_with (refine wpList_store_row rfl 63 _ _ rfl (w.heap.size + 1) _ rfl rfl 63 _ R2.out (by kernel_rfl) rfl (by kernel_rfl) ?_)
  rw [setRow_same (c := #[.int .i64 0, .int .i64 0, .bool false, .float .f64 0, .string ⟨#[]⟩, .int .i64 0, .string ⟨#[]⟩]) R2.out]
  exact cRt rfl rfl (run_loadVar_row _ (w.heap.size + 1) 63 63 zD (0, 0) _ R2.out Tryz.underlying63 rfl (by kernel_rfl)) rfl ⟨t, rfl, HB.out, P2.out, T2.out, HT.out, KK.out⟩
end Go.Proofs.YtmlgjijjkikkhaaGreatDoor
