/-
  What a call leaves behind: the deferred closure of enter; bodies.
-/
import Derived.Test.YtmlgjijjkikkhaaGreatDoorM9
import Derived.Defers
import Derived.Recover
namespace Go.Proofs.YtmlgjijjkikkhaaGreatDoor
open Go.RowKit
attribute [local go_sem] stF neqM eqS
set_option maxRecDepth 100000 in
set_option maxHeartbeats 4000000 in
theorem leave_idle {w : World} {m N R : Nat} {x : Mx} (h : Mc w m x) (hN : w.cell? ⟨N, 0, none⟩ = some (.pointer (some ⟨m, 0, none⟩))) (h1 : 0 ≤ x.calls ∧ x.calls ≤ 1048576) :
    CallsD Tryz.prog 108 #[.pointer (some ⟨N, 0, none⟩), .pointer (some ⟨R, 0, none⟩)] .returning w fun e u' w' => e = .returned (.tuple #[]) ∧ u' = .returning ∧ Mc w' m { x with calls := x.calls - 1 } ∧ Ey w.heap.size m w w' := by
  have c29 : w.cell? ⟨m, 29, none⟩ = some (.int .i64 x.calls) := h.cell rfl
  have f29 := h.frozen 29
  have q2 : wrap64 (x.calls - 1) = x.calls - 1 := by unfold wrap64; omega
  have H2 := Lib.hid (h.set 29 (.int .i64 (x.calls - 1)) { x with calls := x.calls - 1 } rfl)
  have E2 := Lib.hid (ey_set w m 29 (.int .i64 (x.calls - 1)))
  obtain ⟨C, hC⟩ : ∃ C, x.calls = C := ⟨_, rfl⟩
  rw [hC] at c29 q2 H2 E2 ⊢
  clear h h1 hC
  refine callsD_of_wpS Tryz.func108 rfl fun c₀ cs hu => ?_
  apply wpS_seq
  refine wpS_of_wp ?_
  rw [show (#[.pointer (some ⟨N, 0, none⟩), .pointer (some ⟨R, 0, none⟩)] ++ Array.replicate (Tryz.f108.ntmps - (#[.pointer (some ⟨N, 0, none⟩), .pointer (some ⟨R, 0, none⟩)] : Array Value).size) undef : Array Value) = #[.pointer (some ⟨N, 0, none⟩), .pointer (some ⟨R, 0, none⟩), undef, undef, undef, undef, undef, undef, undef, undef, undef, undef, undef] from by rw [Tryz.ntmps108]; rfl]
  go_wp2
  show Code.wpS _ _ _ _ _ _
  apply wpS_seq
  apply wpS_region
  simp [wpOpsS, go_sem, recoverD, hu, Exit.thenS]
  refine wpS_cond (t := false) (by simp [Act.eval]) ?_
  simp only [Bool.false_eq_true, if_false]
  refine wpS_of_wp (wp_skip ?_)
  cases c₀
  simp_all [bodyPostS, results, Tryz.results108]
  exact ⟨H2.out, E2.out⟩
theorem neqNat (fn : Fn) (a b : Array Value) (w : World) : (binOp .neq 99 (.func fn a b) .nilFunc).run Tryz.prog w = .ok (.bool true) w := by
  have h := Tryz.underlying99
  simp only [binOp]
  unfold Op.equal Op.maxDepth Op.equalIn
  simp [Sem.run_bind, run_underlying h]
theorem neqBody (fn : Fn) (a b : Array Value) (w : World) : (binOp .neq 89 (.func fn a b) .nilFunc).run Tryz.prog w = .ok (.bool true) w := by
  have h := Tryz.underlying89
  simp only [binOp]
  unfold Op.equal Op.maxDepth Op.equalIn
  simp [Sem.run_bind, run_underlying h]
theorem neqBody0 (w : World) : (binOp .neq 89 .nilFunc .nilFunc).run Tryz.prog w = .ok (.bool false) w := by
  have h := Tryz.underlying89
  simp only [binOp]
  unfold Op.equal Op.maxDepth Op.equalIn
  simp [Sem.run_bind, run_underlying h]
attribute [local go_sem] neqNat neqBody neqBody0
/-- What stays: all below n but some blocks. -/
structure Ez (n : Nat) (E : Nat → Prop) (w w' : World) : Prop where
  os : w'.os = w.os
  tape : w'.tape = w.tape
  output : w'.output = w.output
  size : w.heap.size ≤ w'.heap.size
  block : ∀ k, k < n → ¬ E k → w'.heap[k]? = w.heap[k]?
theorem Ez.trans {n : Nat} {E : Nat → Prop} {a b c : World} (h : Ez n E a b) (k : Ez n E b c) : Ez n E a c :=
  ⟨k.os.trans h.os, k.tape.trans h.tape, k.output.trans h.output, Nat.le_trans h.size k.size, fun i hi hn => (k.block i hi hn).trans (h.block i hi hn)⟩
theorem Ez.mono {n k : Nat} {E : Nat → Prop} {a b : World} (h : Ez n E a b) (hk : k ≤ n) : Ez k E a b := ⟨h.os, h.tape, h.output, h.size, fun i hi hn => h.block i (by omega) hn⟩
theorem Ez.ey {n m : Nat} {E : Nat → Prop} {a b : World} (h : Ey n m a b) (hm : E m) : Ez n E a b := ⟨h.os, h.tape, h.output, h.size, fun i hi hn => h.block i hi (fun e => hn (e ▸ hm))⟩
theorem Ez.of {n : Nat} {E : Nat → Prop} {a b : World} (h : Below n a b) : Ez n E a b := ⟨h.os, h.tape, h.output, h.size, fun i hi _ => h.block i hi⟩
theorem Ez.below {n : Nat} {E : Nat → Prop} {a b : World} (h : Ez n E a b) {k : Nat} (hk : k ≤ n) (hE : ∀ i, E i → k ≤ i) : Below k a b := ⟨h.os, h.tape, h.output, h.size, fun i hi => h.block i (by omega) (fun e => by have := hE i e; omega)⟩
/-- A load of a whole block, in a list of operations. -/
theorem ldL {ops : Array Oper} {rest : List Oper} {o : Oper} {a : Act} {w : World} {Q : Exit → Act → World → Prop} {x : Operand} {g k : Nat} {ty : TypeId} {v : Value} (hl : (loadVar ty ⟨g, 0, none⟩).run Tryz.prog w = .ok v w) (hd : o.dst = some k) (hw : Region.wanted o (yielded ops a.tmps) = true) (ho : o.op = .load ty x)
    (hx : a.eval x = .pointer (some ⟨g, 0, none⟩)) (h : wpList Tryz.prog ops Q rest (a.put (some k) v) w) : wpList Tryz.prog ops Q (o :: rest) a w := by
  refine wpList_wanted hw ?_
  unfold Oper.wp
  rw [ldRow_run hl ho hx]
  show wpList Tryz.prog ops Q rest (a.put o.dst v) w
  rw [hd]
  exact h
/-- What a function is entered with. -/
abbrev celE (i : Int) (v : Val) (s : Value) : Array Value := #[.int .i64 i, .int .i64 v.vk, .bool v.vb, .float .f64 v.vn, .string v.vs, .int .i64 v.vo, s, .bool false]
/-- All stays but the machine and blocks of ends. -/
def Kq (m : Nat) (w w' : World) : Prop := ∀ j c ty fz, w.heap[j]? = some (.cells c ty fz) → ty ≠ 63 → j ≠ m → w'.heap[j]? = w.heap[j]?
theorem Kq.setRow {m g : Nat} {w : World} {old : Array Value} {fz : Nat × Nat} (hg : w.heap[g]? = some (.cells old 63 fz)) (c : Array Value) : Kq m w (w.setRow g c) := by
  intro j c' ty fz' hj ht _
  refine setRow_other _ _ _ _ (fun e => ?_)
  rw [e, hg] at hj
  cases hj
  exact ht rfl
theorem Kq.ey {m : Nat} {w w' : World} (h : Ey w.heap.size m w w') : Kq m w w' := fun _ _ _ _ hj _ hn => h.block _ (Array.getElem?_eq_some_iff.1 hj).1 hn
theorem Kq.below {m : Nat} {w w' : World} (h : Below w.heap.size w w') : Kq m w w' := fun _ _ _ _ hj _ _ => h.block _ (Array.getElem?_eq_some_iff.1 hj).1
theorem Kq.trans {m : Nat} {a b c : World} (h : Kq m a b) (k : Kq m b c) : Kq m a c := fun j x ty fz hj ht hn => by
  have e := h j x ty fz hj ht hn
  exact (k j x ty fz (e.trans hj) ht hn).trans e
/-- What is said hangs on the machine and on blocks of no ends alone. -/
def Stab (m : Nat) (_E : Nat → Prop) (R : Int → Val → ByteArray → Mx → World → Prop) : Prop := ∀ k v s x' w1 w2, R k v s x' w1 → Kq m w1 w2 → R k v s x' w2
/-- What enter tells, by what the inner call tells. -/
def EntP (w : World) (m : Nat) (E : Nat → Prop) (R : Int → Val → ByteArray → Mx → World → Prop) (e : Ending) (w' : World) : Prop :=
  ∃ k v s x', e = .returned (.agg (celD k v s)) ∧ R k v s x' w' ∧ Mc w' m { x' with calls := x'.calls - 1 } ∧ Ez w.heap.size E w w'
/-- What the inner call tells. -/
def InP (W : World) (m : Nat) (E : Nat → Prop) (R : Int → Val → ByteArray → Mx → World → Prop) (e : Ending) (w1 : World) : Prop :=
  ∃ k v s x', e = .returned (.agg (celD k v s)) ∧ Mc w1 m x' ∧ Ez W.heap.size E W w1 ∧ (0 ≤ x'.calls ∧ x'.calls ≤ 1048576) ∧ R k v s x' w1
/-- What a call tells. -/
def OutP (w : World) (m : Nat) (E : Nat → Prop) (R : Int → Val → ByteArray → Mx → World → Prop) (e : Ending) (w' : World) : Prop :=
  ∃ k v s x', e = .returned (.agg (celD k v s)) ∧ R k v s x' w' ∧ Mc w' m x' ∧ Ez w.heap.size E w w'
/-- The blocks of enter's own. -/
structure EF (w W : World) (m : Nat) (E : Nat → Prop) (y : Ob) (q : Nat) (i : Int) (v0 : Val) (sl : Value) : Prop where
  k0 : W.heap[w.heap.size]? = some (.cells #[.pointer (some ⟨m, 0, none⟩)] 25 (0, 0))
  k1 : W.heap[w.heap.size + 1]? = some (.cells (celO y (.slice (some ⟨q, 0, none⟩) 0 0) (.slice none 0 0)) 70 (0, 0))
  k2 : W.heap[w.heap.size + 2]? = some (.cells (celE i v0 sl) 61 (0, 0))
  k3 : W.heap[w.heap.size + 3]? = some (.cells zD 63 (0, 0))
  z : Ez w.heap.size E w W
  e : ∀ k, E k → k < w.heap.size
theorem EF.lt {w W : World} {m : Nat} {E : Nat → Prop} {y : Ob} {q : Nat} {i : Int} {v0 : Val} {sl : Value} (h : EF w W m E y q i v0 sl) : w.heap.size + 3 < W.heap.size := (Array.getElem?_eq_some_iff.1 h.k3).1
theorem EF.ez {w W W' : World} {m : Nat} {E : Nat → Prop} {y : Ob} {q : Nat} {i : Int} {v0 : Val} {sl : Value} (h : EF w W m E y q i v0 sl) (k : Ez W.heap.size E W W') : EF w W' m E y q i v0 sl := by
  have hl := h.lt
  have ht : ∀ j, w.heap.size ≤ j → j < w.heap.size + 4 → W'.heap[j]? = W.heap[j]? := fun j h1 h2 => k.block j (by omega) (fun he => by have := h.e j he; omega)
  exact ⟨(ht _ (by omega) (by omega)).trans h.k0, (ht _ (by omega) (by omega)).trans h.k1, (ht _ (by omega) (by omega)).trans h.k2, (ht _ (by omega) (by omega)).trans h.k3, h.z.trans (k.mono (by omega)), h.e⟩
theorem EF.on {w W W' : World} {m : Nat} {E : Nat → Prop} {y : Ob} {q : Nat} {i : Int} {v0 : Val} {sl : Value} (h : EF w W m E y q i v0 sl) (k : Below W.heap.size W W') : EF w W' m E y q i v0 sl := h.ez (Ez.of k)
theorem EF.new (w : World) (m : Nat) (E : Nat → Prop) (y : Ob) (q : Nat) (i : Int) (v0 : Val) (sl : Value) (he : ∀ k, E k → k < w.heap.size) :
    EF w ((((w.alloc (.cells #[.pointer (some ⟨m, 0, none⟩)] 25)).alloc (.cells (celO y (.slice (some ⟨q, 0, none⟩) 0 0) (.slice none 0 0)) 70)).alloc (.cells (celE i v0 sl) 61)).alloc (.cells zD 63)) m E y q i v0 sl := by
  obtain ⟨W0, h0⟩ : ∃ W0, w.alloc (.cells #[.pointer (some ⟨m, 0, none⟩)] 25) = W0 := ⟨_, rfl⟩
  have a0 := new1 w #[.pointer (some ⟨m, 0, none⟩)] 25
  have s0 : W0.heap.size = w.heap.size + 1 := by rw [← h0]; simp
  have b0 := below_a1 w (.cells #[.pointer (some ⟨m, 0, none⟩)] 25)
  rw [h0] at a0 b0 ⊢
  obtain ⟨W1, h1⟩ : ∃ W1, W0.alloc (.cells (celO y (.slice (some ⟨q, 0, none⟩) 0 0) (.slice none 0 0)) 70) = W1 := ⟨_, rfl⟩
  have a1 := new1 W0 (celO y (.slice (some ⟨q, 0, none⟩) 0 0) (.slice none 0 0)) 70
  have s1 : W1.heap.size = w.heap.size + 2 := by rw [← h1]; simp [s0]
  have b1 := below_a1 W0 (.cells (celO y (.slice (some ⟨q, 0, none⟩) 0 0) (.slice none 0 0)) 70)
  rw [h1] at a1 b1 ⊢
  obtain ⟨W2, h2⟩ : ∃ W2, W1.alloc (.cells (celE i v0 sl) 61) = W2 := ⟨_, rfl⟩
  have a2 := new1 W1 (celE i v0 sl) 61
  have s2 : W2.heap.size = w.heap.size + 3 := by rw [← h2]; simp [s1]
  have b2 := below_a1 W1 (.cells (celE i v0 sl) 61)
  rw [h2] at a2 b2 ⊢
  have a3 := new1 W2 zD 63
  have b3 := below_a1 W2 (.cells zD 63)
  rw [s0] at a1
  rw [s1] at a2
  rw [s2] at a3
  exact ⟨(b3.block _ (by omega)).trans ((b2.block _ (by omega)).trans ((b1.block _ (by omega)).trans a0)), (b3.block _ (by omega)).trans ((b2.block _ (by omega)).trans a1), (b3.block _ (by omega)).trans a2, a3,
    Ez.of (b0.trans ((b1.mono (by omega)).trans ((b2.mono (by omega)).trans (b3.mono (by omega))))), he⟩
set_option maxRecDepth 100000 in
set_option maxHeartbeats 4000000 in
theorem enter_none {w : World} {m q : Nat} {x : Mx} {y : Ob} {i : Int} {v0 : Val} {A : Option Addr} {n c : Nat} {E : Nat → Prop} (h : Mc w m x) (hy : y.on = 0) (hcd : y.od = 1) (hbd : x.body = .nilFunc) (hE : E m) (hEl : ∀ k, E k → k < w.heap.size) (h1 : 0 ≤ x.calls ∧ x.calls ≤ 1048575) :
    Calls Tryz.prog 82 #[.pointer (some ⟨m, 0, none⟩), .agg (celO y (.slice (some ⟨q, 0, none⟩) 0 0) (.slice none 0 0)), .agg (celE i v0 (.slice A n c))] w (EntP w m E (fun k v s x' _ => k = 0 ∧ v = valU ∧ s = ⟨#[]⟩ ∧ x' = { x with calls := x.calls + 1 })) := by
  have hmf : ∀ (fn : Fn) (first cap : Array Value) (w : World), (Instr.makeFunc fn first cap).run Tryz.prog w = .ok (.func fn first cap) w := fun _ _ _ _ => rfl
  have ef := EF.new w m E y q i v0 (.slice A n c) hEl
  have bw : Below w.heap.size w ((((w.alloc (.cells #[.pointer (some ⟨m, 0, none⟩)] 25)).alloc (.cells (celO y (.slice (some ⟨q, 0, none⟩) 0 0) (.slice none 0 0)) 70)).alloc (.cells (celE i v0 (.slice A n c)) 61)).alloc (.cells zD 63)) :=
    (below_a2 w _ _).trans ((below_a2 _ _ _).mono (by simp; omega))
  go_enter_defers Tryz.func82, Tryz.ntmps82
  go_upto_region 1 with fail
  obtain ⟨W1, hW1⟩ : ∃ W1, ((((w.alloc (.cells #[.pointer (some ⟨m, 0, none⟩)] 25)).alloc (.cells (celO y (.slice (some ⟨q, 0, none⟩) 0 0) (.slice none 0 0)) 70)).alloc (.cells (celE i v0 (.slice A n c)) 61)).alloc (.cells zD 63)) = W1 := ⟨_, rfl⟩
  rw [hW1] at ef bw ⊢
  clear hW1
  have m1 := h.on bw
  have hm := h.lt
  have q1 : wrap64 (x.calls + 1) = x.calls + 1 := by unfold wrap64; omega
  have c0 : W1.cell? ⟨w.heap.size, 0, none⟩ = some (.pointer (some ⟨m, 0, none⟩)) := (cell_of_row W1 _ 0 _ _ _ ef.k0).trans rfl
  have c29 : W1.cell? ⟨m, 29, none⟩ = some (.int .i64 x.calls) := m1.cell rfl
  have f29 := m1.frozen 29
  have m2 := m1.set 29 (.int .i64 (x.calls + 1)) { x with calls := x.calls + 1 } rfl
  have e2 := ey_set W1 m 29 (.int .i64 (x.calls + 1))
  have ef2 := ef.ez (Ez.ey e2 hE)
  have y2 : Ey w.heap.size m w (W1.setCell ⟨m, 29, none⟩ (.int .i64 (x.calls + 1))) := (Ey.of bw).trans (e2.mono bw.size)
  have hs1 : W1.heap.size ≤ (W1.setCell ⟨m, 29, none⟩ (.int .i64 (x.calls + 1))).heap.size := e2.size
  go_upto_region 2 with fail
  obtain ⟨W2, hW2⟩ : ∃ W2, W1.setCell ⟨m, 29, none⟩ (.int .i64 (x.calls + 1)) = W2 := ⟨_, rfl⟩
  rw [hW2] at m2 ef2 y2 ⊢
  have M2 := Lib.hid m2
  have F2 := Lib.hid ef2
  have Y2 := Lib.hid y2
  have HX := Lib.hid (And.intro h1 (And.intro hE (And.intro hEl (And.intro hy (And.intro hcd hbd)))))
  clear hcd hbd hW2 m2 ef2 y2 hs1 c0 c29 f29 e2 m1 ef bw h h1 hE hEl hy q1 hm
  have C1 := Lib.hid (fun W => bound_no (y := y) (q := q) (w := W))
  go_wp2_with (refine ldL (k := 17) (run_loadVar_row _ (w.heap.size + 1) 70 70 _ (0, 0) _ F2.out.k1 Tryz.underlying70 rfl (by kernel_rfl)) rfl (by kernel_rfl) rfl rfl ?_)
  refine (C1.out _).mono ?_
  rintro e W3 ⟨rfl, b3⟩
  have F3 := Lib.hid (F2.out.on b3)
  have M3 := Lib.hid (M2.out.on b3)
  have Y3 := Lib.hid (Y2.out.trans (Ey.of (b3.mono Y2.out.size)))
  clear C1 b3 F2 M2 Y2
  have C2 := Lib.hid (native_no (y := y) (q := q) (m := m) (w := W3) HX.out.2.2.2.1)
  have c0 : W3.cell? ⟨w.heap.size, 0, none⟩ = some (.pointer (some ⟨m, 0, none⟩)) := (cell_of_row W3 _ 0 _ _ _ F3.out.k0).trans rfl
  go_wp2_with (refine ldL (k := 38) (run_loadVar_row _ (w.heap.size + 1) 70 70 _ (0, 0) _ F3.out.k1 Tryz.underlying70 rfl (by kernel_rfl)) rfl (by kernel_rfl) rfl rfl ?_)
  refine C2.out.mono ?_
  rintro e W4 ⟨rfl, b4⟩
  have F4 := Lib.hid (F3.out.on b4)
  have M4 := Lib.hid (M3.out.on b4)
  have Y4 := Lib.hid (Y3.out.trans (Ey.of (b4.mono Y3.out.size)))
  clear C2 b4 F3 M3 Y3 c0
  have c0 : W4.cell? ⟨w.heap.size, 0, none⟩ = some (.pointer (some ⟨m, 0, none⟩)) := (cell_of_row W4 _ 0 _ _ _ F4.out.k0).trans rfl
  have d10 : W4.cell? ⟨w.heap.size + 1, 10, none⟩ = some (.int .i64 1) := by rw [← HX.out.2.2.2.2.1]; exact (cell_of_row W4 _ 10 _ _ _ F4.out.k1).trans rfl
  have c26 : W4.cell? ⟨m, 26, none⟩ = some .nilFunc := by rw [← HX.out.2.2.2.2.2]; exact M4.out.cell rfl
  go_upto_region 11 with fail
  clear c0 d10 c26
  have F6 := F4
  have M6 := M4
  have H6 := Lib.hid (show 0 ≤ x.calls + 1 ∧ x.calls + 1 ≤ 1048576 by have := HX.out.1; omega)
  clear F4 M4
  go_wp2_with (refine wpList_store_row rfl 63 _ _ rfl (w.heap.size + 3) _ rfl rfl 63 _ F6.out.k3 (by kernel_rfl) rfl (by kernel_rfl) ?_)
  have hm := HX.out.2.2.1 m HX.out.2.1
  have m7 : Mc (W4.setRow (w.heap.size + 3) (zD)) m { x with calls := x.calls + 1 } := (setRow_other _ _ _ _ (by omega)).trans M6.out
  have k7 : (W4.setRow (w.heap.size + 3) (zD)).heap[w.heap.size]? = some (.cells #[.pointer (some ⟨m, 0, none⟩)] 25 (0, 0)) := (setRow_other _ _ _ _ (by omega)).trans F6.out.k0
  have k9 : (W4.setRow (w.heap.size + 3) (zD)).heap[w.heap.size + 3]? = some (.cells (zD) 63 (0, 0)) := setRow_heap _ _ _ _ _ _ F6.out.k3
  have z7 : Ez w.heap.size E w (W4.setRow (w.heap.size + 3) (zD)) := F6.out.z.trans (Ez.of (below_setRowK (Below.refl _ _) (by omega) _))
  have hs7 : (W4.setRow (w.heap.size + 3) (zD)).heap.size = W4.heap.size := setRow_size _ _ _
  have hl5 := F6.out.lt
  refine leaves_cons (f := 108) (args := #[.pointer (some ⟨w.heap.size, 0, none⟩), .pointer (some ⟨w.heap.size + 1 + 1 + 1, 0, none⟩)]) (by simp) (by simp [go_sem]) ?_
  refine (leave_idle m7 ((cell_of_row _ _ 0 _ _ _ k7).trans rfl) H6.out).mono ?_
  rintro e u' w8 ⟨rfl, rfl, m8, e8⟩
  have k10 : w8.heap[w.heap.size + 3]? = some (.cells (zD) 63 (0, 0)) := (e8.block _ (by omega) (by omega)).trans k9
  refine ⟨.agg (zD), results_cellV rfl _ _ _ _ _ rfl (run_loadVar_row w8 (w.heap.size + 3) 63 63 (zD) (0, 0) _ k10 Tryz.underlying63 rfl (by kernel_rfl)), ?_⟩
  exact ⟨0, valU, ⟨#[]⟩, { x with calls := x.calls + 1 }, rfl, ⟨rfl, rfl, rfl, rfl⟩, m8, z7.trans (Ez.ey (e8.mono (by omega)) HX.out.2.1)⟩
theorem ldA_run {o : Oper} {a : Act} {w : World} {x : Operand} {p : Addr} {ty : TypeId} {v : Value} (hl : (loadVar ty p).run Tryz.prog w = .ok v w) (ho : o.op = .load ty x) (hx : a.eval x = .pointer (some p)) : (execOp a.eval o).run Tryz.prog w = .ok (.value v) w := by
  unfold execOp
  simp only [ho, hx, Instr.loadAt, Instr.sureAddr, Sem.run_bind, Sem.run_pure, Result.andThen_ok, hl]
set_option maxRecDepth 100000 in
set_option maxHeartbeats 4000000 in
theorem enter_body {w : World} {m q : Nat} {p1 p2 p3 : Addr} {x : Mx} {y : Ob} {i : Int} {v0 : Val} {A : Option Addr} {n c : Nat} {E : Nat → Prop} {R : Int → Val → ByteArray → Mx → World → Prop} (h : Mc w m x) (hy : y.on = 0) (hcd : y.od = 1) (hbd : x.body = .func (.func 29) #[] #[.pointer (some p1), .pointer (some p2), .pointer (some p3)]) (hE : E m) (hEl : ∀ k, E k → k < w.heap.size) (hst : Stab m E R) (hRb : ∀ k v s x' w', R k v s x' w' → x'.body = x.body) (h1 : 0 ≤ x.calls ∧ x.calls ≤ 1048575)
    (hC : ∀ W, Ey w.heap.size m w W → Mc W m { x with calls := x.calls + 1 } → Calls Tryz.prog 29 #[.pointer (some ⟨m, 0, none⟩), .int .i64 i, .agg #[.int .i64 v0.vk, .bool v0.vb, .float .f64 v0.vn, .string v0.vs, .int .i64 v0.vo], .slice A n c, .pointer (some p1), .pointer (some p2), .pointer (some p3)] W (InP W m E R)) :
    Calls Tryz.prog 82 #[.pointer (some ⟨m, 0, none⟩), .agg (celO y (.slice (some ⟨q, 0, none⟩) 0 0) (.slice none 0 0)), .agg (celE i v0 (.slice A n c))] w (EntP w m E R) := by
  have hmf : ∀ (fn : Fn) (first cap : Array Value) (w : World), (Instr.makeFunc fn first cap).run Tryz.prog w = .ok (.func fn first cap) w := fun _ _ _ _ => rfl
  have ef := EF.new w m E y q i v0 (.slice A n c) hEl
  have bw : Below w.heap.size w ((((w.alloc (.cells #[.pointer (some ⟨m, 0, none⟩)] 25)).alloc (.cells (celO y (.slice (some ⟨q, 0, none⟩) 0 0) (.slice none 0 0)) 70)).alloc (.cells (celE i v0 (.slice A n c)) 61)).alloc (.cells zD 63)) :=
    (below_a2 w _ _).trans ((below_a2 _ _ _).mono (by simp; omega))
  go_enter_defers Tryz.func82, Tryz.ntmps82
  go_upto_region 1 with fail
  obtain ⟨W1, hW1⟩ : ∃ W1, ((((w.alloc (.cells #[.pointer (some ⟨m, 0, none⟩)] 25)).alloc (.cells (celO y (.slice (some ⟨q, 0, none⟩) 0 0) (.slice none 0 0)) 70)).alloc (.cells (celE i v0 (.slice A n c)) 61)).alloc (.cells zD 63)) = W1 := ⟨_, rfl⟩
  rw [hW1] at ef bw ⊢
  clear hW1
  have m1 := h.on bw
  have hm := h.lt
  have q1 : wrap64 (x.calls + 1) = x.calls + 1 := by unfold wrap64; omega
  have c0 : W1.cell? ⟨w.heap.size, 0, none⟩ = some (.pointer (some ⟨m, 0, none⟩)) := (cell_of_row W1 _ 0 _ _ _ ef.k0).trans rfl
  have c29 : W1.cell? ⟨m, 29, none⟩ = some (.int .i64 x.calls) := m1.cell rfl
  have f29 := m1.frozen 29
  have m2 := m1.set 29 (.int .i64 (x.calls + 1)) { x with calls := x.calls + 1 } rfl
  have e2 := ey_set W1 m 29 (.int .i64 (x.calls + 1))
  have ef2 := ef.ez (Ez.ey e2 hE)
  have y2 : Ey w.heap.size m w (W1.setCell ⟨m, 29, none⟩ (.int .i64 (x.calls + 1))) := (Ey.of bw).trans (e2.mono bw.size)
  have hs1 : W1.heap.size ≤ (W1.setCell ⟨m, 29, none⟩ (.int .i64 (x.calls + 1))).heap.size := e2.size
  go_upto_region 2 with fail
  obtain ⟨W2, hW2⟩ : ∃ W2, W1.setCell ⟨m, 29, none⟩ (.int .i64 (x.calls + 1)) = W2 := ⟨_, rfl⟩
  rw [hW2] at m2 ef2 y2 ⊢
  have M2 := Lib.hid m2
  have F2 := Lib.hid ef2
  have Y2 := Lib.hid y2
  have HX := Lib.hid (And.intro h1 (And.intro hE (And.intro hEl (And.intro hy (And.intro hcd hbd)))))
  clear hcd hbd hW2 m2 ef2 y2 hs1 c0 c29 f29 e2 m1 ef bw h h1 hE hEl hy q1 hm
  have C1 := Lib.hid (fun W => bound_no (y := y) (q := q) (w := W))
  go_wp2_with (refine ldL (k := 17) (run_loadVar_row _ (w.heap.size + 1) 70 70 _ (0, 0) _ F2.out.k1 Tryz.underlying70 rfl (by kernel_rfl)) rfl (by kernel_rfl) rfl rfl ?_)
  refine (C1.out _).mono ?_
  rintro e W3 ⟨rfl, b3⟩
  have F3 := Lib.hid (F2.out.on b3)
  have M3 := Lib.hid (M2.out.on b3)
  have Y3 := Lib.hid (Y2.out.trans (Ey.of (b3.mono Y2.out.size)))
  clear C1 b3 F2 M2 Y2
  have C2 := Lib.hid (native_no (y := y) (q := q) (m := m) (w := W3) HX.out.2.2.2.1)
  have c0 : W3.cell? ⟨w.heap.size, 0, none⟩ = some (.pointer (some ⟨m, 0, none⟩)) := (cell_of_row W3 _ 0 _ _ _ F3.out.k0).trans rfl
  go_wp2_with (refine ldL (k := 38) (run_loadVar_row _ (w.heap.size + 1) 70 70 _ (0, 0) _ F3.out.k1 Tryz.underlying70 rfl (by kernel_rfl)) rfl (by kernel_rfl) rfl rfl ?_)
  refine C2.out.mono ?_
  rintro e W4 ⟨rfl, b4⟩
  have F4 := Lib.hid (F3.out.on b4)
  have M4 := Lib.hid (M3.out.on b4)
  have Y4 := Lib.hid (Y3.out.trans (Ey.of (b4.mono Y3.out.size)))
  clear C2 b4 F3 M3 Y3 c0
  have c0 : W4.cell? ⟨w.heap.size, 0, none⟩ = some (.pointer (some ⟨m, 0, none⟩)) := (cell_of_row W4 _ 0 _ _ _ F4.out.k0).trans rfl
  have d10 : W4.cell? ⟨w.heap.size + 1, 10, none⟩ = some (.int .i64 1) := by rw [← HX.out.2.2.2.2.1]; exact (cell_of_row W4 _ 10 _ _ _ F4.out.k1).trans rfl
  have c26 : W4.cell? ⟨m, 26, none⟩ = some (.func (.func 29) #[] #[.pointer (some p1), .pointer (some p2), .pointer (some p3)]) := by rw [← HX.out.2.2.2.2.2]; exact M4.out.cell rfl
  have HC := Lib.hid hC
  have HB := Lib.hid hRb
  have HB2 := Lib.hid HX.out.2.2.2.2.2
  clear hC hRb
  go_upto_region 10 with fail
  have C26 := Lib.hid c26
  clear c0 d10 c26
  refine wp_region_noPanic ?_
  refine wp_region_held_drew (S := fun W => W.heap[w.heap.size]? = some (.cells #[.pointer (some ⟨m, 0, none⟩)] 25 (0, 0)) ∧ W.heap[w.heap.size + 2]? = some (.cells (celE i v0 (.slice A n c)) 61 (0, 0)) ∧ W.cell? ⟨m, 26, none⟩ = some (.func (.func 29) #[] #[.pointer (some p1), .pointer (some p2), .pointer (some p3)])) (by kernel_rfl) ⟨F4.out.k0, F4.out.k2, C26.out⟩ (fun hHeld => ?_)
  refine take_s (v := .pointer (some ⟨m, 0, none⟩)) (i := 0) rfl (by kernel_rfl) (by kernel_rfl) (by kernel_rfl) (fun _ _ _ h => h) (Or.inl ⟨by rfl, by (intro w' hSw; have c := (cell_of_row w' w.heap.size 0 _ _ _ hSw.1).trans (show (#[Value.pointer (some ⟨m, 0, none⟩)] : Array Value)[0]? = some (.pointer (some ⟨m, 0, none⟩)) from rfl); go_simp)⟩) rfl (by assumption) ?_; simp only [lset]
  refine take_s (i := 1) rfl (by kernel_rfl) (by kernel_rfl) (by kernel_rfl) (fun _ _ _ h => h) (Or.inl ⟨by rfl, by (intro w' hSw; go_simp; try with_reducible rfl)⟩) rfl (by assumption) ?_; simp only [lset]
  refine take_s (i := 2) rfl (by kernel_rfl) (by kernel_rfl) (by kernel_rfl) (fun _ _ _ h => h) (Or.inl ⟨by rfl, by (intro w' hSw; go_simp; try with_reducible rfl)⟩) rfl (by assumption) ?_; simp only [lset]
  refine take_s (v := .func (.func 29) #[] #[.pointer (some p1), .pointer (some p2), .pointer (some p3)]) (i := 3) rfl (by kernel_rfl) (by kernel_rfl) (by kernel_rfl) (fun _ _ _ h => h) (Or.inl ⟨by rfl, by (intro w' hSw; have c := hSw.2.2; go_simp)⟩) rfl (by assumption) ?_; simp only [lset]
  refine take_s (v := .pointer (some ⟨m, 0, none⟩)) (i := 4) rfl (by kernel_rfl) (by kernel_rfl) (by kernel_rfl) (fun _ _ _ h => h) (Or.inl ⟨by rfl, by (intro w' hSw; have c := (cell_of_row w' w.heap.size 0 _ _ _ hSw.1).trans (show (#[Value.pointer (some ⟨m, 0, none⟩)] : Array Value)[0]? = some (.pointer (some ⟨m, 0, none⟩)) from rfl); go_simp)⟩) rfl (by assumption) ?_; simp only [lset]
  refine take_s (i := 5) rfl (by kernel_rfl) (by kernel_rfl) (by kernel_rfl) (fun _ _ _ h => h) (Or.inl ⟨by rfl, by (intro w' hSw; go_simp; try with_reducible rfl)⟩) rfl (by assumption) ?_; simp only [lset]
  refine take_s (v := .int .i64 i) (i := 6) rfl (by kernel_rfl) (by kernel_rfl) (by kernel_rfl) (fun _ _ _ h => h) (Or.inl ⟨by rfl, by (intro w' hSw; have c := (cell_of_row w' (w.heap.size + 2) 0 _ _ _ hSw.2.1).trans (show (celE i v0 (.slice A n c))[0]? = some (.int .i64 i) from rfl); go_simp)⟩) rfl (by assumption) ?_; simp only [lset]
  refine take_s (i := 7) rfl (by kernel_rfl) (by kernel_rfl) (by kernel_rfl) (fun _ _ _ h => h) (Or.inl ⟨by rfl, by (intro w' hSw; go_simp; try with_reducible rfl)⟩) rfl (by assumption) ?_; simp only [lset]
  refine take_s (v := .agg #[.int .i64 v0.vk, .bool v0.vb, .float .f64 v0.vn, .string v0.vs, .int .i64 v0.vo]) (i := 8) rfl (by kernel_rfl) (by kernel_rfl) (by kernel_rfl) (fun _ _ _ h => h) (Or.inl ⟨by rfl, by (intro w' hSw; exact ldA_run (run_load_seg (P := Tryz.prog) w' (w.heap.size + 2) 1 5 61 57 _ (0, 0) _ hSw.2.1 Tryz.underlying57 rfl (by kernel_rfl) (by show 1 + 5 ≤ 8; omega)) rfl rfl)⟩) rfl (by assumption) ?_; simp only [lset]
  refine take_s (i := 9) rfl (by kernel_rfl) (by kernel_rfl) (by kernel_rfl) (fun _ _ _ h => h) (Or.inl ⟨by rfl, by (intro w' hSw; go_simp; try with_reducible rfl)⟩) rfl (by assumption) ?_; simp only [lset]
  refine take_s (v := .slice A n c) (i := 10) rfl (by kernel_rfl) (by kernel_rfl) (by kernel_rfl) (fun _ _ _ h => h) (Or.inl ⟨by rfl, by (intro w' hSw; have c := (cell_of_row w' (w.heap.size + 2) 6 _ _ _ hSw.2.1).trans (show (celE i v0 (.slice A n c))[6]? = some (.slice A n c) from rfl); go_simp)⟩) rfl (by assumption) ?_; simp only [lset]
  refine call_s (i := 11) (by kernel_rfl) rfl rfl (by rfl) (fun K hK => ?_)
  go_simp
  refine (HC.out W4.drew (Y4.out.trans (Ey.of ((Below.refl W4.heap.size W4).drew.mono Y4.out.size))) M4.out).mono ?_
  rintro e w5 ⟨k, v, s, x', rfl, m5, z5, hb5, r5⟩
  have F6 := Lib.hid ((F4.out.on (Below.refl _ _).drew).ez z5)
  have M6 := Lib.hid m5
  have R6 := Lib.hid r5
  have H6 := Lib.hid hb5
  have c26 : w5.cell? ⟨m, 26, none⟩ = some (.func (.func 29) #[] #[.pointer (some p1), .pointer (some p2), .pointer (some p3)]) := by rw [← HB2.out, ← HB.out _ _ _ _ _ r5]; exact m5.cell rfl
  refine hK.out _ _ ⟨F6.out.k0, F6.out.k2, c26⟩ ?_; clear hK K hHeld m5 z5 hb5 r5 HC HB F4 M4 Y4 C26; simp only [lset]
  refine step_n (i := 12) (by kernel_rfl) rfl rfl (by rfl) (fun K hK => ?_)
  refine wp_store_row 63 _ _ rfl (w.heap.size + 3) _ rfl rfl 63 _ F6.out.k3 (by kernel_rfl) rfl (by kernel_rfl) ?_
  have hm := HX.out.2.2.1 m HX.out.2.1
  refine hK.out undef _ ⟨(setRow_other _ _ _ _ (by omega)).trans F6.out.k0, (setRow_other _ _ _ _ (by omega)).trans F6.out.k2, (cell_setRow_other _ _ _ _ (by show m ≠ w.heap.size + 3; omega)).trans c26⟩ ?_; clear hK K c26
  refine wpAnyH_done (by kernel_rfl) ?_ _
  refine NoPanic.normal ?_
  go_wp2_with fail
  have m7 : Mc (w5.setRow (w.heap.size + 3) (celD k v s)) m x' := (setRow_other _ _ _ _ (by omega)).trans M6.out
  have k7 : (w5.setRow (w.heap.size + 3) (celD k v s)).heap[w.heap.size]? = some (.cells #[.pointer (some ⟨m, 0, none⟩)] 25 (0, 0)) := (setRow_other _ _ _ _ (by omega)).trans F6.out.k0
  have k9 : (w5.setRow (w.heap.size + 3) (celD k v s)).heap[w.heap.size + 3]? = some (.cells (celD k v s) 63 (0, 0)) := setRow_heap _ _ _ _ _ _ F6.out.k3
  have z7 : Ez w.heap.size E w (w5.setRow (w.heap.size + 3) (celD k v s)) := F6.out.z.trans (Ez.of (below_setRowK (Below.refl _ _) (by omega) _))
  have hs7 : (w5.setRow (w.heap.size + 3) (celD k v s)).heap.size = w5.heap.size := setRow_size _ _ _
  have hl5 := F6.out.lt
  refine leaves_cons (f := 108) (args := #[.pointer (some ⟨w.heap.size, 0, none⟩), .pointer (some ⟨w.heap.size + 1 + 1 + 1, 0, none⟩)]) (by simp) (by simp [go_sem]) ?_
  refine (leave_idle m7 ((cell_of_row _ _ 0 _ _ _ k7).trans rfl) H6.out).mono ?_
  rintro e u' w8 ⟨rfl, rfl, m8, e8⟩
  have k10 : w8.heap[w.heap.size + 3]? = some (.cells (celD k v s) 63 (0, 0)) := (e8.block _ (by omega) (by omega)).trans k9
  refine ⟨.agg (celD k v s), results_cellV rfl _ _ _ _ _ rfl (run_loadVar_row w8 (w.heap.size + 3) 63 63 (celD k v s) (0, 0) _ k10 Tryz.underlying63 rfl (by kernel_rfl)), ?_⟩
  exact ⟨k, v, s, x', rfl, hst _ _ _ _ _ _ R6.out ((Kq.setRow F6.out.k3 _).trans (Kq.ey e8)), m8, z7.trans (Ez.ey (e8.mono (by omega)) HX.out.2.1)⟩
end Go.Proofs.YtmlgjijjkikkhaaGreatDoor
