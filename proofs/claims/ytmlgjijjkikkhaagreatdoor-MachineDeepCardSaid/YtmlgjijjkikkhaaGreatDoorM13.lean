/-
  Calls within calls: the law's native, and how deep they go.
-/
import Derived.Test.YtmlgjijjkikkhaaGreatDoorM12
namespace Go.Proofs.YtmlgjijjkikkhaaGreatDoor
open Go.RowKit
attribute [local go_sem] stF neqM eqS neqNat neqBody neqBody0
/-- The function's object: class 2, native 1. -/
abbrev obF : Ob := { oc := 2, op := -1, of := false, pr := valU, on := 1, od := 0, os := 0 }
abbrev EDp (m cb : Nat) : Nat → Prop := fun k => k = m ∨ k = cb
/-- A machine with the law's native, its object, its counter. -/
structure DS (W : World) (m cb fb t : Nat) (x : Mx) (n room used : Nat) : Prop where
  M : Mc W m x
  ov : x.ov = false
  P : Hp x.hb room used [t] W
  T : HobE W t obF (.slice none 0 0) (.slice none 0 0)
  C : W.heap[cb]? = some (.cells #[.int .i64 n] 3 (0, 0))
  F : W.heap[fb]? = some (.cells (celX (vObj 0)) 57 (0, 0))
  N : NatR W x.nats (.func (.func 22) #[] #[.pointer (some ⟨cb, 0, none⟩), .pointer (some ⟨fb, 0, none⟩)])
  b : x.nest = 0 ∧ 0 ≤ x.calls ∧ x.calls ≤ x.l3 ∧ x.l3 ≤ 255 ∧ 0 ≤ x.left ∧ x.left ≤ 255
theorem DS.ne {W : World} {m cb fb t : Nat} {x : Mx} {n room used : Nat} (h : DS W m cb fb t x n room used) {j : Nat} {c : Array Value} {ty : TypeId} {fz : Nat × Nat} (hj : W.heap[j]? = some (.cells c ty fz)) (h1 : ty ≠ 91) (h2 : ty ≠ 3) : ¬ EDp m cb j := by
  rintro (rfl | rfl)
  · rw [show W.heap[j]? = _ from h.M] at hj; cases hj; exact h1 rfl
  · rw [h.C] at hj; cases hj; exact h2 rfl
theorem DS.cm {W : World} {m cb fb t : Nat} {x : Mx} {n room used : Nat} (h : DS W m cb fb t x n room used) : cb ≠ m := by
  rintro rfl
  have := h.C
  rw [show W.heap[cb]? = _ from h.M] at this
  cases this
theorem DS.lt {W : World} {m cb fb t : Nat} {x : Mx} {n room used : Nat} (h : DS W m cb fb t x n room used) : ∀ k, EDp m cb k → k < W.heap.size := by
  rintro k (rfl | rfl)
  · exact h.M.lt
  · exact (Array.getElem?_eq_some_iff.1 h.C).1
theorem DS.to {W W' : World} {m cb fb t : Nat} {x x' : Mx} {n n' room used : Nat} (h : DS W m cb fb t x n room used) (k : Ez W.heap.size (EDp m cb) W W') (hM : Mc W' m x') (hC : W'.heap[cb]? = some (.cells #[.int .i64 n'] 3 (0, 0))) (e1 : x'.ov = false) (e2 : x'.hb = x.hb) (e3 : x'.nats = x.nats)
    (hb : x'.nest = 0 ∧ 0 ≤ x'.calls ∧ x'.calls ≤ x'.l3 ∧ x'.l3 ≤ 255 ∧ 0 ≤ x'.left ∧ x'.left ≤ 255) : DS W' m cb fb t x' n' room used := by
  refine ⟨hM, e1, ?_, ?_, hC, (k.block _ (Array.getElem?_eq_some_iff.1 h.F).1 (h.ne h.F (by decide) (by decide))).trans h.F, ?_, hb⟩
  · rw [e2]
    obtain ⟨⟨v, p1, p2⟩, p3⟩ := h.P
    refine ⟨⟨v, (k.block _ (Array.getElem?_eq_some_iff.1 p1).1 (h.ne p1 (by decide) (by decide))).trans p1, ⟨p2.1, ?_⟩⟩, p3⟩
    rcases p2.2 with hn | ⟨g, cap, cur, hv, hbg, hg, rest⟩
    · exact .inl hn
    · exact .inr ⟨g, cap, cur, hv, hbg, (k.block _ (Array.getElem?_eq_some_iff.1 hg).1 (h.ne hg (by decide) (by decide))).trans hg, rest⟩
  · obtain ⟨q, ht⟩ := h.T
    exact ⟨q, (k.block _ (Array.getElem?_eq_some_iff.1 ht).1 (h.ne ht (by decide) (by decide))).trans ht⟩
  · rw [e3]
    obtain ⟨g, cap, cur, hv, hg, r⟩ := h.N
    exact ⟨g, cap, cur, hv, (k.block _ (Array.getElem?_eq_some_iff.1 hg).1 (h.ne hg (by decide) (by decide))).trans hg, r⟩
/-- How such a call ends: a limit is met, the counter is so much. -/
def RD (cb : Nat) (c : Int) (tot : Nat) : Int → Val → ByteArray → Mx → World → Prop := fun k v s x' w =>
  k = 5 ∧ v = valU ∧ s = ⟨#[]⟩ ∧ x'.ov = true ∧ x'.calls = c ∧ w.heap[cb]? = some (.cells #[.int .i64 tot] 3 (0, 0))
theorem RD.stab {m cb : Nat} {c : Int} {tot : Nat} (h : cb ≠ m) : Stab m (EDp m cb) (RD cb c tot) :=
  fun _ _ _ _ _ _ r k => ⟨r.1, r.2.1, r.2.2.1, r.2.2.2.1, r.2.2.2.2.1, (k cb (Or.inr rfl) h).trans r.2.2.2.2.2⟩
theorem OutP.imp {w : World} {m : Nat} {E : Nat → Prop} {R R' : Int → Val → ByteArray → Mx → World → Prop} {e : Ending} {w' : World} (h : OutP w m E R e w') (k : ∀ k v s x' w, R k v s x' w → R' k v s x' w) : OutP w m E R' e w' := by
  obtain ⟨a, b, c, x, e1, r, rest⟩ := h
  exact ⟨a, b, c, x, e1, k _ _ _ _ _ r, rest⟩
theorem ldP {ops : Array Oper} {rest : List Oper} {o : Oper} {a : Act} {w : World} {Q : Exit → Act → World → Prop} {x : Operand} {p : Addr} {k : Nat} {ty : TypeId} {v : Value} (hl : (loadVar ty p).run Tryz.prog w = .ok v w) (hd : o.dst = some k) (hw : Region.wanted o (yielded ops a.tmps) = true) (ho : o.op = .load ty x)
    (hx : a.eval x = .pointer (some p)) (h : wpList Tryz.prog ops Q rest (a.put (some k) v) w) : wpList Tryz.prog ops Q (o :: rest) a w := by
  refine wpList_wanted hw ?_
  unfold Oper.wp execOp
  simp only [ho, hx, Instr.loadAt, Instr.sureAddr, Sem.run_bind, Sem.run_pure, Result.andThen_ok, hl]
  show wpList Tryz.prog ops Q rest (a.put o.dst v) w
  rw [hd]
  exact h
/-- What Call tells of the law's function. -/
def CallD (m cb fb t room used r : Nat) : Prop := ∀ W x n, DS W m cb fb t x n room used → (if x.l3 - x.calls ≤ x.left then (x.l3 - x.calls).toNat else x.left.toNat) = r → n + r ≤ 100000 →
  Calls Tryz.prog 23 #[.pointer (some ⟨m, 0, none⟩), .agg (celX (vObj 0)), .agg (celX valU), .slice none 0 0] W (OutP W m (EDp m cb) (RD cb x.calls (n + r)))
set_option maxRecDepth 100000 in
set_option maxHeartbeats 4000000 in
theorem deep1 {m cb fb t room used r : Nat} {W : World} {x : Mx} {n : Nat} (hC : CallD m cb fb t room used r) (h : DS W m cb fb t x n room used) (hr : (if x.l3 - x.calls ≤ x.left then (x.l3 - x.calls).toNat else x.left.toNat) = r) (hn : n + 1 + r ≤ 100000) :
    Calls Tryz.prog 22 #[.pointer (some ⟨m, 0, none⟩), .agg (celE 0 valU (.slice none 0 0)), .pointer (some ⟨cb, 0, none⟩), .pointer (some ⟨fb, 0, none⟩)] W (InP W m (EDp m cb) (RD cb x.calls (n + 1 + r))) := by
  have bw := below_a2 W (.cells (celE 0 valU (.slice none 0 0)) 61) (.cells zD 63)
  have n0 : ((W.alloc (.cells (celE 0 valU (.slice none 0 0)) 61)).alloc (.cells zD 63)).heap[W.heap.size]? = some (.cells (celE 0 valU (.slice none 0 0)) 61 (0, 0)) := ((below_a1 _ _).block _ (by simp)).trans (new1 W _ _)
  have n1 : ((W.alloc (.cells (celE 0 valU (.slice none 0 0)) 61)).alloc (.cells zD 63)).heap[W.heap.size + 1]? = some (.cells zD 63 (0, 0)) := by
    have := new1 (W.alloc (.cells (celE 0 valU (.slice none 0 0)) 61)) zD 63
    simpa using this
  obtain ⟨n1', hn1⟩ : ∃ k, n + 1 = k := ⟨_, rfl⟩
  rw [hn1] at hn ⊢
  have hlt := h.lt
  have hcm := h.cm
  go_enter Tryz.func22, Tryz.ntmps22
  go_upto_region 1 with fail
  obtain ⟨W1, hW1⟩ : ∃ W1, (W.alloc (.cells (celE 0 valU (.slice none 0 0)) 61)).alloc (.cells zD 63) = W1 := ⟨_, rfl⟩
  rw [hW1] at bw n0 n1 ⊢
  clear hW1
  have h1 : DS W1 m cb fb t x n room used := h.to (Ez.of bw) (h.M.on bw) ((bw.block _ (hlt cb (Or.inr rfl))).trans h.C) h.ov rfl rfl h.b
  have cC : W1.cell? ⟨cb, 0, none⟩ = some (.int .i64 n) := (cell_of_row W1 cb 0 _ _ _ h1.C).trans rfl
  have fC := frozen_of_row W1 cb 0 _ _ h1.C
  have q1 : wrap64 ((n : Int) + 1) = ((n1' : Nat) : Int) := by unfold wrap64; omega
  have c2 : (W1.setCell ⟨cb, 0, none⟩ (.int .i64 ((n1' : Nat) : Int))).heap[cb]? = some (.cells #[.int .i64 ((n1' : Nat) : Int)] 3 (0, 0)) := (heap_setCell_same W1 cb 0 _ 3 _ h1.C).trans rfl
  have y2 := ey_set W1 cb 0 (.int .i64 ((n1' : Nat) : Int))
  have h2 : DS (W1.setCell ⟨cb, 0, none⟩ (.int .i64 ((n1' : Nat) : Int))) m cb fb t x n1' room used := h1.to (Ez.ey y2 (Or.inr rfl)) (h1.M.ey y2 (Ne.symm hcm)) c2 h.ov rfl rfl h.b
  have m0 : (W1.setCell ⟨cb, 0, none⟩ (.int .i64 ((n1' : Nat) : Int))).heap[W.heap.size]? = some (.cells (celE 0 valU (.slice none 0 0)) 61 (0, 0)) := (y2.block _ (Array.getElem?_eq_some_iff.1 n0).1 (by have := hlt cb (Or.inr rfl); omega)).trans n0
  have m1 : (W1.setCell ⟨cb, 0, none⟩ (.int .i64 ((n1' : Nat) : Int))).heap[W.heap.size + 1]? = some (.cells zD 63 (0, 0)) := (y2.block _ (Array.getElem?_eq_some_iff.1 n1).1 (by have := hlt cb (Or.inr rfl); omega)).trans n1
  have z2 : Ez W.heap.size (EDp m cb) W (W1.setCell ⟨cb, 0, none⟩ (.int .i64 ((n1' : Nat) : Int))) := (Ez.of bw).trans (Ez.ey (y2.mono bw.size) (Or.inr rfl))
  have C3 := Lib.hid (hC _ x n1' h2 hr (by omega))
  have HL := Lib.hid (And.intro hlt (And.intro hcm h.b))
  clear bw n0 n1 h1 hC h hr hn hlt hcm y2 c2 hn1
  go_upto_region 2 with fail
  obtain ⟨W2, hW2⟩ : ∃ W2, W1.setCell ⟨cb, 0, none⟩ (.int .i64 ((n1' : Nat) : Int)) = W2 := ⟨_, rfl⟩
  rw [hW2] at h2 m0 m1 z2 C3 ⊢
  have F2 := Lib.hid h2.F
  have Z2 := Lib.hid z2
  have K0 := Lib.hid m0
  have K1 := Lib.hid m1
  have d6 : W2.cell? ⟨W.heap.size, 6, none⟩ = some (.slice none 0 0) := (cell_of_row W2 _ 6 _ _ _ m0).trans rfl
  clear cC fC q1 hW2 h2 m0 m1 z2
  go_wp2_with (first | refine ldP (k := 10) (run_loadVar_row _ fb 57 57 _ (0, 0) _ F2.out Tryz.underlying57 rfl (by kernel_rfl)) rfl (by kernel_rfl) rfl rfl ?_ | refine ldP (k := 12) (v := .agg (celX valU)) (run_load_seg (P := Tryz.prog) _ W.heap.size 1 5 61 57 _ (0, 0) _ K0.out Tryz.underlying57 rfl (by kernel_rfl) (by decide)) rfl (by kernel_rfl) rfl rfl ?_)
  refine C3.out.mono ?_
  rintro e W3 ⟨k, v, s, x', rfl, r3, m3, z3⟩
  have K3 : W3.heap[W.heap.size + 1]? = some (.cells zD 63 (0, 0)) := (z3.block _ (Array.getElem?_eq_some_iff.1 K1.out).1 (by have := HL.out.1 m (Or.inl rfl); have := HL.out.1 cb (Or.inr rfl); rintro (h | h) <;> omega)).trans K1.out
  have Z3 := Lib.hid (Z2.out.trans (z3.mono Z2.out.size))
  have R3 := Lib.hid r3
  have M3 := Lib.hid m3
  clear C3 r3 m3 z3 d6
  go_wp2_with (refine wpList_store_row rfl 63 _ _ rfl (W.heap.size + 1) _ rfl rfl 63 _ K3 (by kernel_rfl) rfl (by kernel_rfl) ?_)
  have hlm := HL.out.1 m (Or.inl rfl)
  have hlc := HL.out.1 cb (Or.inr rfl)
  refine cR1 rfl rfl (run_loadVar_row _ (W.heap.size + 1) 63 63 (celD k v s) (0, 0) _ (setRow_heap _ _ _ _ _ _ K3) Tryz.underlying63 rfl (by kernel_rfl)) rfl
    ⟨k, v, s, x', rfl, (setRow_other _ _ _ _ (by omega)).trans M3.out, Z3.out.trans (Ez.of (below_setRowK (Below.refl _ _) (by omega) _)), ?_, RD.stab HL.out.2.1 _ _ _ _ _ _ R3.out (fun j hj _ => setRow_other _ _ _ _ (by rcases hj with h | h <;> omega))⟩
  rw [R3.out.2.2.2.2.1]
  have := HL.out.2.2
  omega
end Go.Proofs.YtmlgjijjkikkhaaGreatDoor
