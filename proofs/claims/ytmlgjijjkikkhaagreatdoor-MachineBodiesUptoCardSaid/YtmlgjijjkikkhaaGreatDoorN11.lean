/-
  run and call, whatever the function's end.
-/
import Derived.Test.YtmlgjijjkikkhaaGreatDoorN10
namespace Go.Proofs.YtmlgjijjkikkhaaGreatDoor
open Go.RowKit
attribute [local go_sem] stF neqM eqS neqNat neqBody neqBody0
/-- The blocks of run's own. -/
structure RuF (w W : World) (E : Nat → Prop) (y : Ob) (q : Nat) (i : Int) (v0 : Val) (sl : Value) : Prop where
  k0 : W.heap[w.heap.size]? = some (.cells (celO y (.slice (some ⟨q, 0, none⟩) 0 0) (.slice none 0 0)) 70 (0, 0))
  k1 : W.heap[w.heap.size + 1]? = some (.cells (celE i v0 sl) 61 (0, 0))
  k2 : W.heap[w.heap.size + 2]? = some (.cells zD 63 (0, 0))
  z : Ez w.heap.size E w W
  e : ∀ k, E k → k < w.heap.size
theorem RuF.lt {w W : World} {E : Nat → Prop} {y : Ob} {q : Nat} {i : Int} {v0 : Val} {sl : Value} (h : RuF w W E y q i v0 sl) : w.heap.size + 2 < W.heap.size := (Array.getElem?_eq_some_iff.1 h.k2).1
theorem RuF.ez {w W W' : World} {E : Nat → Prop} {y : Ob} {q : Nat} {i : Int} {v0 : Val} {sl : Value} (h : RuF w W E y q i v0 sl) (k : Ez W.heap.size E W W') : RuF w W' E y q i v0 sl := by
  have hl := h.lt
  have ht : ∀ j, w.heap.size ≤ j → j < w.heap.size + 3 → W'.heap[j]? = W.heap[j]? := fun j h1 h2 => k.block j (by omega) (fun he => by have := h.e j he; omega)
  exact ⟨(ht _ (by omega) (by omega)).trans h.k0, (ht _ (by omega) (by omega)).trans h.k1, (ht _ (by omega) (by omega)).trans h.k2, h.z.trans (k.mono (by omega)), h.e⟩
theorem RuF.on {w W W' : World} {E : Nat → Prop} {y : Ob} {q : Nat} {i : Int} {v0 : Val} {sl : Value} (h : RuF w W E y q i v0 sl) (k : Below W.heap.size W W') : RuF w W' E y q i v0 sl := h.ez (Ez.of k)
theorem RuF.new (w : World) (E : Nat → Prop) (y : Ob) (q : Nat) (i : Int) (v0 : Val) (sl : Value) (he : ∀ k, E k → k < w.heap.size) :
    RuF w (((w.alloc (.cells (celO y (.slice (some ⟨q, 0, none⟩) 0 0) (.slice none 0 0)) 70)).alloc (.cells (celE i v0 sl) 61)).alloc (.cells zD 63)) E y q i v0 sl := by
  obtain ⟨W1, h1⟩ : ∃ W1, w.alloc (.cells (celO y (.slice (some ⟨q, 0, none⟩) 0 0) (.slice none 0 0)) 70) = W1 := ⟨_, rfl⟩
  have a1 := new1 w (celO y (.slice (some ⟨q, 0, none⟩) 0 0) (.slice none 0 0)) 70
  have s1 : W1.heap.size = w.heap.size + 1 := by rw [← h1]; simp
  have b1 := below_a1 w (.cells (celO y (.slice (some ⟨q, 0, none⟩) 0 0) (.slice none 0 0)) 70)
  rw [h1] at a1 b1 ⊢
  obtain ⟨W2, h2⟩ : ∃ W2, W1.alloc (.cells (celE i v0 sl) 61) = W2 := ⟨_, rfl⟩
  have a2 := new1 W1 (celE i v0 sl) 61
  have s2 : W2.heap.size = w.heap.size + 2 := by rw [← h2]; simp [s1]
  have b2 := below_a1 W1 (.cells (celE i v0 sl) 61)
  rw [h2] at a2 b2 ⊢
  have a3 := new1 W2 zD 63
  have b3 := below_a1 W2 (.cells zD 63)
  rw [s1] at a2
  rw [s2] at a3
  exact ⟨(b3.block _ (by omega)).trans ((b2.block _ (by omega)).trans a1), (b3.block _ (by omega)).trans a2, a3,
    Ez.of (b1.trans ((b2.mono (by omega)).trans (b3.mono (by omega)))), he⟩
def outK (k : Int) : Int := if k = 1 then 1 else 0
def outV (k : Int) (v : Val) : Val := if k = 3 ∨ k = 4 then valU else v
theorem ldSegE {W : World} {g : Nat} {k : Int} {v : Val} {s : ByteArray} (hg : W.heap[g]? = some (.cells (celD k v s) 63 (0, 0))) : (loadVar 57 ⟨g, 1, none⟩).run Tryz.prog W = .ok (.agg #[.int .i64 v.vk, .bool v.vb, .float .f64 v.vn, .string v.vs, .int .i64 v.vo]) W :=
  run_load_seg (P := Tryz.prog) W g 1 5 63 57 _ (0, 0) _ hg Tryz.underlying57 rfl (by kernel_rfl) (by show 1 + 5 ≤ 7; omega)
theorem ldP {ops : Array Oper} {rest : List Oper} {o : Oper} {a : Act} {w : World} {Q : Exit → Act → World → Prop} {x : Operand} {p : Addr} {k : Nat} {ty : TypeId} {v : Value} (hl : (loadVar ty p).run Tryz.prog w = .ok v w) (hd : o.dst = some k) (hw : Region.wanted o (yielded ops a.tmps) = true) (ho : o.op = .load ty x)
    (hx : a.eval x = .pointer (some p)) (h : wpList Tryz.prog ops Q rest (a.put (some k) v) w) : wpList Tryz.prog ops Q (o :: rest) a w := by
  refine wpList_wanted hw ?_
  unfold Oper.wp
  rw [ldA_run hl ho hx]
  show wpList Tryz.prog ops Q rest (a.put o.dst v) w
  rw [hd]
  exact h
set_option maxRecDepth 100000 in
set_option maxHeartbeats 4000000 in
theorem run_go {w : World} {m q : Nat} {x : Mx} {y : Ob} {i : Int} {v0 : Val} {A : Option Addr} {n c : Nat} {E : Nat → Prop} {R : Int → Val → ByteArray → Mx → World → Prop} (h : Mc w m x) (ho : x.ov = false) (hE : E m) (hEl : ∀ k, E k → k < w.heap.size) (hst : Stab m E R) (hR : ∀ k v s x' w', R k v s x' w' → x'.ov = false ∧ 0 ≤ k ∧ k ≤ 4)
    (hl : 1 ≤ x.left ∧ x.left ≤ 9223372036854775807) (h1 : 0 ≤ x.calls ∧ x.calls ≤ 1048575) (h2 : 0 ≤ x.nest ∧ x.nest ≤ 1048576) (hd : ¬ (x.l3 ≤ x.calls + x.nest))
    (hC : ∀ W, Ey w.heap.size m w W → Mc W m { x with left := x.left - 1 } → Calls Tryz.prog 82 #[.pointer (some ⟨m, 0, none⟩), .agg (celO y (.slice (some ⟨q, 0, none⟩) 0 0) (.slice none 0 0)), .agg (celE i v0 (.slice A n c))] W (EntP W m E R)) :
    Calls Tryz.prog 59 #[.pointer (some ⟨m, 0, none⟩), .agg (celO y (.slice (some ⟨q, 0, none⟩) 0 0) (.slice none 0 0)), .agg (celE i v0 (.slice A n c))] w (OutP w m E fun k2 v2 s2 x2 w' => ∃ k v s x', R k v s x' w' ∧ x2 = { x' with calls := x'.calls - 1 } ∧ k2 = outK k ∧ v2 = outV k v ∧ s2 = ⟨#[]⟩) := by
  have rf := RuF.new w E y q i v0 (.slice A n c) hEl
  have bw : Below w.heap.size w (((w.alloc (.cells (celO y (.slice (some ⟨q, 0, none⟩) 0 0) (.slice none 0 0)) 70)).alloc (.cells (celE i v0 (.slice A n c)) 61)).alloc (.cells zD 63)) :=
    (below_a2 w _ _).trans ((below_a1 _ _).mono (by simp; omega))
  go_enter Tryz.func59, Tryz.ntmps59
  go_upto_region 1 with fail
  obtain ⟨W1, hW1⟩ : ∃ W1, (((w.alloc (.cells (celO y (.slice (some ⟨q, 0, none⟩) 0 0) (.slice none 0 0)) 70)).alloc (.cells (celE i v0 (.slice A n c)) 61)).alloc (.cells zD 63)) = W1 := ⟨_, rfl⟩
  rw [hW1] at rf bw ⊢
  clear hW1
  have m1 := h.on bw
  go_wp2_with fail
  refine (spend_1 m1 ho hl.1 hl.2).mono ?_
  rintro e W2 ⟨rfl, m2, e2⟩
  have hdd : decide (x.l3 ≤ x.calls + x.nest) = false := decide_eq_false (by omega)
  have C2 := Lib.hid (show Calls Tryz.prog 81 #[.pointer (some ⟨m, 0, none⟩)] W2 fun e w' => e = .returned (.bool false) ∧ Below W2.heap.size W2 w' from by have := deep_m m2 (show 0 ≤ x.calls ∧ x.calls ≤ 1048576 from ⟨h1.1, by omega⟩) h2; rw [← hdd]; exact this)
  go_wp2_with fail
  refine C2.out.mono ?_
  rintro e W3 ⟨rfl, b3⟩
  have M3 := Lib.hid (m2.on b3)
  have Y3 := Lib.hid (show Ey w.heap.size m w W3 from (Ey.of bw).trans ((e2.mono bw.size).trans (Ey.of (b3.mono (Nat.le_trans bw.size e2.size)))))
  have F3 := Lib.hid ((rf.ez (Ez.ey e2 hE)).on b3)
  have HX := Lib.hid (And.intro hE hEl)
  have HC := Lib.hid hC
  clear e2 m2 b3 C2 hdd hl h1 h2 hd bw rf m1 h ho hE hEl hC
  go_wp2_with (first | refine ldL (k := 18) (run_loadVar_row _ w.heap.size 70 70 _ (0, 0) _ F3.out.k0 Tryz.underlying70 rfl (by kernel_rfl)) rfl (by kernel_rfl) rfl rfl ?_ | refine ldL (k := 19) (run_loadVar_row _ (w.heap.size + 1) 61 61 _ (0, 0) _ F3.out.k1 Tryz.underlying61 rfl (by kernel_rfl)) rfl (by kernel_rfl) rfl rfl ?_)
  refine (HC.out W3 Y3.out M3.out).mono ?_
  rintro e W4 ⟨k, v, s, x', rfl, r4, m4, z4⟩
  have f4 := F3.out.ez (z4)
  have hl3 := F3.out.lt
  have bA := below_a1 W4 (.cells (celD k v s) 63)
  have m5 := m4.on bA
  have f5 := f4.on bA
  have n5 := new1 W4 (celD k v s) 63
  have R5 := Lib.hid (hst _ _ _ _ _ (W4.alloc (.cells (celD k v s) 63)) r4 (Kq.below bA))
  have hr := hR _ _ _ _ _ r4
  have c1 : (W4.alloc (.cells (celD k v s) 63)).cell? ⟨m, 1, none⟩ = some (.bool false) := by rw [← hr.1]; exact m5.cell rfl
  have c0 : (W4.alloc (.cells (celD k v s) 63)).cell? ⟨W4.heap.size, 0, none⟩ = some (.int .i64 k) := (cell_of_row _ _ 0 _ _ _ n5).trans rfl
  go_upto_region 4 with fail
  obtain ⟨W5, hW5⟩ : ∃ W5, W4.alloc (.cells (celD k v s) 63) = W5 := ⟨_, rfl⟩
  rw [hW5] at m5 f5 n5 R5 c1 c0 ⊢
  have M5 := Lib.hid m5
  have F5 := Lib.hid f5
  have N5 := Lib.hid n5
  have hm := HX.out.2 m HX.out.1
  have hk : k = 0 ∨ k = 1 ∨ k = 2 ∨ k = 3 ∨ k = 4 := by omega
  clear r4 m4 z4 f4 hl3 bA m5 f5 F3 Y3 M3 HC hR n5 hr hW5
  rcases hk with rfl | rfl | rfl | rfl | rfl
  · skip
    go_wp2_with (first | refine ldP (k := 50) (ldSegE N5.out) rfl (by kernel_rfl) rfl rfl ?_ | refine wpList_store_row rfl 63 _ _ rfl (w.heap.size + 2) _ rfl rfl 63 _ F5.out.k2 (by kernel_rfl) rfl (by kernel_rfl) ?_)
    exact cR1 rfl rfl (run_loadVar_row _ (w.heap.size + 2) 63 63 (celD 0 v ⟨#[]⟩) (0, 0) _ (setRow_heap _ _ _ _ _ _ F5.out.k2) Tryz.underlying63 rfl (by kernel_rfl)) rfl
      ⟨0, v, ⟨#[]⟩, _, rfl, ⟨0, v, s, x', hst _ _ _ _ _ _ R5.out (Kq.setRow F5.out.k2 _), rfl, rfl, rfl, rfl⟩, (setRow_other _ _ _ _ (by omega)).trans M5.out, F5.out.z.trans (Ez.of (below_setRowK (Below.refl _ _) (by omega) _))⟩
  · skip
    go_wp2_with (first | refine ldP (k := 38) (ldSegE N5.out) rfl (by kernel_rfl) rfl rfl ?_ | refine wpList_store_row rfl 63 _ _ rfl (w.heap.size + 2) _ rfl rfl 63 _ F5.out.k2 (by kernel_rfl) rfl (by kernel_rfl) ?_)
    exact cR1 rfl rfl (run_loadVar_row _ (w.heap.size + 2) 63 63 (celD 1 v ⟨#[]⟩) (0, 0) _ (setRow_heap _ _ _ _ _ _ F5.out.k2) Tryz.underlying63 rfl (by kernel_rfl)) rfl
      ⟨1, v, ⟨#[]⟩, _, rfl, ⟨1, v, s, x', hst _ _ _ _ _ _ R5.out (Kq.setRow F5.out.k2 _), rfl, rfl, rfl, rfl⟩, (setRow_other _ _ _ _ (by omega)).trans M5.out, F5.out.z.trans (Ez.of (below_setRowK (Below.refl _ _) (by omega) _))⟩
  · skip
    go_wp2_with (first | refine ldP (k := 50) (ldSegE N5.out) rfl (by kernel_rfl) rfl rfl ?_ | refine wpList_store_row rfl 63 _ _ rfl (w.heap.size + 2) _ rfl rfl 63 _ F5.out.k2 (by kernel_rfl) rfl (by kernel_rfl) ?_)
    exact cR1 rfl rfl (run_loadVar_row _ (w.heap.size + 2) 63 63 (celD 0 v ⟨#[]⟩) (0, 0) _ (setRow_heap _ _ _ _ _ _ F5.out.k2) Tryz.underlying63 rfl (by kernel_rfl)) rfl
      ⟨0, v, ⟨#[]⟩, _, rfl, ⟨2, v, s, x', hst _ _ _ _ _ _ R5.out (Kq.setRow F5.out.k2 _), rfl, rfl, rfl, rfl⟩, (setRow_other _ _ _ _ (by omega)).trans M5.out, F5.out.z.trans (Ez.of (below_setRowK (Below.refl _ _) (by omega) _))⟩
  · skip
    go_wp2_with (first | refine ldP (k := 50) (ldSegE N5.out) rfl (by kernel_rfl) rfl rfl ?_ | refine wpList_store_row rfl 63 _ _ rfl (w.heap.size + 2) _ rfl rfl 63 _ F5.out.k2 (by kernel_rfl) rfl (by kernel_rfl) ?_)
    exact cR1 rfl rfl (run_loadVar_row _ (w.heap.size + 2) 63 63 (celD 0 valU ⟨#[]⟩) (0, 0) _ (setRow_heap _ _ _ _ _ _ F5.out.k2) Tryz.underlying63 rfl (by kernel_rfl)) rfl
      ⟨0, valU, ⟨#[]⟩, _, rfl, ⟨3, v, s, x', hst _ _ _ _ _ _ R5.out (Kq.setRow F5.out.k2 _), rfl, rfl, rfl, rfl⟩, (setRow_other _ _ _ _ (by omega)).trans M5.out, F5.out.z.trans (Ez.of (below_setRowK (Below.refl _ _) (by omega) _))⟩
  · skip
    go_wp2_with (first | refine ldP (k := 50) (ldSegE N5.out) rfl (by kernel_rfl) rfl rfl ?_ | refine wpList_store_row rfl 63 _ _ rfl (w.heap.size + 2) _ rfl rfl 63 _ F5.out.k2 (by kernel_rfl) rfl (by kernel_rfl) ?_)
    exact cR1 rfl rfl (run_loadVar_row _ (w.heap.size + 2) 63 63 (celD 0 valU ⟨#[]⟩) (0, 0) _ (setRow_heap _ _ _ _ _ _ F5.out.k2) Tryz.underlying63 rfl (by kernel_rfl)) rfl
      ⟨0, valU, ⟨#[]⟩, _, rfl, ⟨4, v, s, x', hst _ _ _ _ _ _ R5.out (Kq.setRow F5.out.k2 _), rfl, rfl, rfl, rfl⟩, (setRow_other _ _ _ _ (by omega)).trans M5.out, F5.out.z.trans (Ez.of (below_setRowK (Below.refl _ _) (by omega) _))⟩
end Go.Proofs.YtmlgjijjkikkhaaGreatDoor
