/-
  The law's body; a call without a body, and with it.
-/
import Derived.Test.YtmlgjijjkikkhaaGreatDoorMb2
namespace Go.Proofs.YtmlgjijjkikkhaaGreatDoor
open Go.RowKit
attribute [local go_sem] stF neqM eqS neqNat neqBody neqBody0
set_option maxRecDepth 100000 in
set_option maxHeartbeats 1000000 in
theorem setBody_m {w : World} {m : Nat} {x : Mx} {F : Fn} {caps : Array Value} (h : Mc w m x) (hb : x.body = .nilFunc) : Calls Tryz.prog 28 #[.pointer (some ⟨m, 0, none⟩), .func F #[] caps] w fun e w' => e = .returned (.tuple #[]) ∧ Mc w' m { x with body := .func F #[] caps } ∧ Ey w.heap.size m w w' := by
  have c1 : w.cell? ⟨m, 26, none⟩ = some .nilFunc := hb ▸ h.cell rfl
  have f1 := h.frozen 26
  have H2 := Lib.hid (h.set 26 (.func F #[] caps) { x with body := .func F #[] caps } rfl)
  have E2 := Lib.hid (ey_set w m 26 (.func F #[] caps))
  have C1 := Lib.hid (there_m h)
  clear h hb
  go_enter Tryz.func28, Tryz.ntmps28
  go_wp2_with fail
  refine C1.out.mono ?_
  rintro e w' ⟨rfl, rfl⟩
  clear C1
  go_wp2
  go_end0
  exact ⟨rfl, H2.out, E2.out⟩
/-- The function's object: class 2, code 1. -/
abbrev obB : Ob := { oc := 2, op := -1, of := false, pr := valU, on := 0, od := 1, os := 0 }
abbrev EBd (m wb mb : Nat) : Nat → Prop := fun k => k = m ∨ k = wb ∨ k = mb
/-- A row of values of the call's own, above the machine. -/
def RowB (m : Nat) (l : List Val) (v : Value) (W : World) : Prop := W.ownsRow (m + 1) 57 5 v l.length (flatV l)
theorem RowB.of {m B : Nat} {l : List Val} {v : Value} {W : World} (h : W.ownsRow B 57 5 v l.length (flatV l)) (hB : m < B) : RowB m l v W := by
  refine ⟨h.1, ?_⟩
  rcases h.2 with hn | ⟨g, cap, cur, e, hbg, rest⟩
  · exact .inl hn
  · exact .inr ⟨g, cap, cur, e, by omega, rest⟩
theorem RowB.keep {m : Nat} {l : List Val} {v : Value} {W W' : World} (h : RowB m l v W) (k : ∀ g c, m < g → W.heap[g]? = some (.cells c 57 (0, 0)) → W'.heap[g]? = W.heap[g]?) : RowB m l v W' := by
  refine ⟨h.1, ?_⟩
  rcases h.2 with hn | ⟨g, cap, cur, e, hbg, hg, rest⟩
  · exact .inl hn
  · exact .inr ⟨g, cap, cur, e, hbg, (k g cur (by omega) hg).trans hg, rest⟩
theorem RowB.on {m : Nat} {l : List Val} {v : Value} {W W' : World} (h : RowB m l v W) (b : Below W.heap.size W W') : RowB m l v W' := h.keep (fun _ _ _ hg => b.block _ (Array.getElem?_eq_some_iff.1 hg).1)
theorem RowB.slice {m : Nat} {l : List Val} {v : Value} {W : World} (h : RowB m l v W) : ∃ A c, v = .slice A l.length c := by
  rcases h.2 with ⟨e, h0⟩ | ⟨g, cap, cur, e, _⟩
  · exact ⟨none, 0, by rw [e, h0]⟩
  · exact ⟨_, _, e⟩
/-- How the body ends: with the end that was asked for; what it was entered with is written down. -/
def RB (m wb mb : Nat) (ke : Int) (ve : Val) (se : ByteArray) (bv : Value) (v0 : Val) (l : List Val) : Int → Val → ByteArray → Mx → World → Prop := fun k v s x' w =>
  (k = ke ∧ v = ve ∧ s = se ∧ x'.ov = false ∧ x'.body = bv) ∧ w.heap[mb]? = some (.cells #[.int .i64 1] 3 (0, 0)) ∧ ∃ sl, w.heap[wb]? = some (.cells (celE 0 v0 sl) 61 (0, 0)) ∧ RowB m l sl w
theorem RB.stab {m wb mb : Nat} {ke : Int} {ve : Val} {se : ByteArray} {bv : Value} {v0 : Val} {l : List Val} {E : Nat → Prop} (h1 : wb ≠ m) (h2 : mb ≠ m) : Stab m E (RB m wb mb ke ve se bv v0 l) := by
  rintro k v s x' w1 w2 ⟨h, hm, sl, hw, hr⟩ hk
  exact ⟨h, (hk _ _ _ _ hm (by decide) h2).trans hm, sl, (hk _ _ _ _ hw (by decide) h1).trans hw, hr.keep (fun g c hg hc => hk _ _ _ _ hc (by decide) (by omega))⟩
set_option maxRecDepth 100000 in
set_option maxHeartbeats 4000000 in
theorem body1 {m wb mb eb : Nat} {W : World} {x : Mx} {ke : Int} {ve : Val} {se : ByteArray} {v0 : Val} {l : List Val} {A : Option Addr} {c : Nat} {old : Array Value} (hM : Mc W m x) (ho : x.ov = false) (hc : 0 ≤ x.calls ∧ x.calls ≤ 1048576) (hW : W.heap[wb]? = some (.cells old 61 (0, 0))) (hold : old.size = 8) (hm0 : W.heap[mb]? = some (.cells #[.int .i64 0] 3 (0, 0)))
    (he : W.heap[eb]? = some (.cells (celD ke ve se) 63 (0, 0))) (hr : RowB m l (.slice A l.length c) W) :
    Calls Tryz.prog 29 #[.pointer (some ⟨m, 0, none⟩), .int .i64 (0 : Nat), .agg #[.int .i64 v0.vk, .bool v0.vb, .float .f64 v0.vn, .string v0.vs, .int .i64 v0.vo], .slice A l.length c, .pointer (some ⟨wb, 0, none⟩), .pointer (some ⟨mb, 0, none⟩), .pointer (some ⟨eb, 0, none⟩)] W (InP W m (EBd m wb mb) (RB m wb mb ke ve se x.body v0 l)) := by
  have bw := below_a2 W (.cells (celX v0) 57) (.cells zD 63)
  have n0 : ((W.alloc (.cells (celX v0) 57)).alloc (.cells zD 63)).heap[W.heap.size]? = some (.cells (celX v0) 57 (0, 0)) := ((below_a1 _ _).block _ (by simp)).trans (new1 W _ _)
  have n1 : ((W.alloc (.cells (celX v0) 57)).alloc (.cells zD 63)).heap[W.heap.size + 1]? = some (.cells zD 63 (0, 0)) := by
    have := new1 (W.alloc (.cells (celX v0) 57)) zD 63
    simpa using this
  have lw := (Array.getElem?_eq_some_iff.1 hW).1
  have lm := (Array.getElem?_eq_some_iff.1 hm0).1
  have le := (Array.getElem?_eq_some_iff.1 he).1
  have d1 : wb ≠ m := by rintro rfl; rw [show W.heap[wb]? = _ from hM] at hW; cases hW
  have d2 : mb ≠ m := by rintro rfl; rw [show W.heap[mb]? = _ from hM] at hm0; cases hm0
  have d3 : wb ≠ mb := by rintro rfl; rw [hW] at hm0; cases hm0
  have d4 : eb ≠ wb := by rintro rfl; rw [hW] at he; cases he
  have d5 : eb ≠ mb := by rintro rfl; rw [hm0] at he; cases he
  have lM := hM.lt
  go_enter Tryz.func29, Tryz.ntmps29
  go_upto_region 1 with fail
  obtain ⟨W1, hW1⟩ : ∃ W1, (W.alloc (.cells (celX v0) 57)).alloc (.cells zD 63) = W1 := ⟨_, rfl⟩
  rw [hW1] at bw n0 n1 ⊢
  clear hW1
  have hW1 := (bw.block _ lw).trans hW
  have hm1 := (bw.block _ lm).trans hm0
  have he1 := (bw.block _ le).trans he
  have hM1 := hM.on bw
  have hr1 := hr.on bw
  go_upto_region 2 with (first | refine ldP (k := 13) (run_loadVar_row _ W.heap.size 57 57 _ (0, 0) _ n0 Tryz.underlying57 rfl (by kernel_rfl)) rfl (by kernel_rfl) rfl rfl ?_ | refine wpList_store_row rfl 61 _ _ rfl wb _ rfl rfl 61 _ hW1 (by kernel_rfl) hold (by kernel_rfl) ?_)
  have s1 := setRow_heap _ _ _ (celE 0 v0 (.slice A l.length c)) _ _ hW1
  have o1 : ∀ j, j ≠ wb → (W1.setRow wb (celE 0 v0 (.slice A l.length c))).heap[j]? = W1.heap[j]? := fun j hj => setRow_other _ _ _ _ hj
  have z1 : (W1.setRow wb (celE 0 v0 (.slice A l.length c))).heap.size = W1.heap.size := setRow_size _ _ _
  have e1 : Ez W.heap.size (EBd m wb mb) W (W1.setRow wb (celE 0 v0 (.slice A l.length c))) := (Ez.of bw).trans ⟨rfl, rfl, rfl, by rw [z1]; exact Nat.le_refl _, fun j _ hj => o1 j (fun e => hj (.inr (.inl e)))⟩
  obtain ⟨W2, hW2⟩ : ∃ W2, W1.setRow wb (celE 0 v0 (.slice A l.length c)) = W2 := ⟨_, rfl⟩
  rw [hW2] at s1 o1 z1 e1 ⊢
  have hm2 := (o1 mb (Ne.symm d3)).trans hm1
  have he2 := (o1 eb d4).trans he1
  have hM2 : Mc W2 m x := (o1 m (Ne.symm d1)).trans hM1
  have hr2 := hr1.keep (W' := W2) (fun g c _ hg => o1 g (fun e => by rw [e, hW1] at hg; cases hg))
  have n2 := (o1 (W.heap.size + 1) (by omega)).trans n1
  have c0 : W2.cell? ⟨mb, 0, none⟩ = some (.int .i64 0) := (cell_of_row W2 mb 0 _ _ _ hm2).trans rfl
  have f0 := frozen_of_row W2 mb 0 _ _ hm2
  have hm3 : (W2.setCell ⟨mb, 0, none⟩ (.int .i64 1)).heap[mb]? = some (.cells #[.int .i64 1] 3 (0, 0)) := (heap_setCell_same W2 mb 0 _ 3 _ hm2).trans rfl
  have y3 := ey_set W2 mb 0 (.int .i64 1)
  have hl2 : W.heap.size + 1 < W2.heap.size := (Array.getElem?_eq_some_iff.1 n2).1
  have hw3 := (y3.block wb (by omega) d3).trans s1
  have he3 := (y3.block eb (by omega) d5).trans he2
  have hM3 := hM2.ey y3 (Ne.symm d2)
  have hr3 := hr2.keep (fun g c _ hg => y3.block g (Array.getElem?_eq_some_iff.1 hg).1 (fun e => by rw [e, hm2] at hg; cases hg))
  have n3 := (y3.block (W.heap.size + 1) hl2 (by omega)).trans n2
  have e3 : Ez W.heap.size (EBd m wb mb) W (W2.setCell ⟨mb, 0, none⟩ (.int .i64 1)) := e1.trans (Ez.ey (y3.mono (by omega)) (.inr (.inr rfl)))
  clear hW2 s1 o1 z1 e1 bw n0 n1 n2 hW1 hm1 he1 hM1 hr1 he2 hM2 hr2 hW hm0 he hM hr hm2 y3
  go_upto_region 3 with fail
  obtain ⟨W3, hW3⟩ : ∃ W3, W2.setCell ⟨mb, 0, none⟩ (.int .i64 1) = W3 := ⟨_, rfl⟩
  rw [hW3] at hm3 hw3 he3 hM3 hr3 n3 e3 ⊢
  have HM := Lib.hid hm3
  have HW := Lib.hid hw3
  have HE := Lib.hid he3
  have HMC := Lib.hid hM3
  have HR := Lib.hid hr3
  have HN := Lib.hid n3
  have HZ := Lib.hid e3
  have HD := Lib.hid (And.intro d1 (And.intro d2 (And.intro lw (And.intro lm (And.intro lM hc)))))
  clear hW3 hm3 hw3 he3 hM3 hr3 n3 e3 d1 d2 d3 d4 d5 lw lm lM le hc c0 f0 hold hl2
  go_wp2_with (first | refine ldP (k := 18) (run_loadVar_row _ eb 63 63 _ (0, 0) _ HE.out Tryz.underlying63 rfl (by kernel_rfl)) rfl (by kernel_rfl) rfl rfl ?_ | refine wpList_store_row rfl 63 _ _ rfl (W.heap.size + 1) _ rfl rfl 63 _ HN.out (by kernel_rfl) rfl (by kernel_rfl) ?_)
  have hd := HD.out
  refine cR1 rfl rfl (run_loadVar_row _ (W.heap.size + 1) 63 63 (celD ke ve se) (0, 0) _ (setRow_heap _ _ _ _ _ _ HN.out) Tryz.underlying63 rfl (by kernel_rfl)) rfl
    ⟨ke, ve, se, x, rfl, (setRow_other _ _ _ _ (by omega)).trans HMC.out, HZ.out.trans (Ez.of (below_setRowK (Below.refl _ _) (by omega) _)), hd.2.2.2.2.2, ?_⟩
  exact RB.stab (E := fun _ => True) hd.1 hd.2.1 _ _ _ _ _ _ ⟨⟨rfl, rfl, rfl, ho, rfl⟩, HM.out, _, HW.out, HR.out⟩ (Kq.setRow HN.out _)
/-- What a call without a body tells. -/
def R0 (x : Mx) : Int → Val → ByteArray → Mx → World → Prop := fun k v s x' _ => k = 0 ∧ v = valU ∧ s = ⟨#[]⟩ ∧ x' = { x with left := x.left - 1 }
theorem R0.stab {m : Nat} {E : Nat → Prop} {x : Mx} : Stab m E (R0 x) := fun _ _ _ _ _ _ h _ => h
theorem Hp.ez {hb room used : Nat} {l : List Nat} {W W' : World} {E : Nat → Prop} (h : Hp hb room used l W) (k : Ez W.heap.size E W W') (hE : ∀ j c ty fz, W.heap[j]? = some (.cells c ty fz) → (ty = 107 ∨ ty = 116) → ¬ E j) : Hp hb room used l W' := by
  obtain ⟨⟨v, p1, p2⟩, p3⟩ := h
  refine ⟨⟨v, (k.block _ (Array.getElem?_eq_some_iff.1 p1).1 (hE _ _ _ _ p1 (.inl rfl))).trans p1, ⟨p2.1, ?_⟩⟩, p3⟩
  rcases p2.2 with hn | ⟨g, cap, cur, hv, hbg, hg, rest⟩
  · exact .inl hn
  · exact .inr ⟨g, cap, cur, hv, hbg, (k.block _ (Array.getElem?_eq_some_iff.1 hg).1 (hE _ _ _ _ hg (.inr rfl))).trans hg, rest⟩
theorem OutP.imp {w : World} {m : Nat} {E : Nat → Prop} {R R' : Int → Val → ByteArray → Mx → World → Prop} {e : Ending} {w' : World} (h : OutP w m E R e w') (k : ∀ k v s x' w, R k v s x' w → R' k v s x' w) : OutP w m E R' e w' := by
  obtain ⟨a, b, c, x, e1, r, rest⟩ := h
  exact ⟨a, b, c, x, e1, k _ _ _ _ _ r, rest⟩
/-- A machine with one function of the program. -/
structure MB (W : World) (m t : Nat) (x : Mx) (room used : Nat) : Prop where
  M : Mc W m x
  ov : x.ov = false
  P : Hp x.hb room used [t] W
  T : HobE W t obB (.slice none 0 0) (.slice none 0 0)
  b : x.nest = 0 ∧ x.calls = 0 ∧ x.l3 = 10 ∧ 1 ≤ x.left ∧ x.left ≤ 1000
theorem MB.on {W W' : World} {m t : Nat} {x : Mx} {room used : Nat} (h : MB W m t x room used) (b : Below W.heap.size W W') : MB W' m t x room used := ⟨h.M.on b, h.ov, h.P.on b, h.T.on b, h.b⟩
theorem call_b0 {W : World} {m t : Nat} {x : Mx} {room used : Nat} {v0 : Val} {l : List Val} {A : Option Addr} {c : Nat} (h : MB W m t x room used) (hb : x.body = .nilFunc) (hv : ValsAt W.heap.size W l A c) :
    Calls Tryz.prog 23 #[.pointer (some ⟨m, 0, none⟩), .agg (celX (vObj 0)), .agg (celX v0), .slice A l.length c] W (OutP W m (fun k => k = m) (R0 x)) := by
  have hx := h.b
  refine Call_m (i := 0) (P := fun _ _ => True) rfl (fun k hk => hk ▸ h.M.lt) R0.stab (fun W1 b1 => (clone_any ((hv.on b1).more b1.size)).mono ?_) (fun W2 B k d b2 _ => ?_)
  · rintro e w' ⟨v', rfl, ho, b⟩
    obtain ⟨A', c', rfl⟩ : ∃ A c, v' = .slice A l.length c := by
      rcases ho.2 with ⟨e, h0⟩ | ⟨g, cap, cur, e, _⟩
      · exact ⟨none, 0, by rw [e, h0]⟩
      · exact ⟨_, _, e⟩
    exact ⟨_, _, _, rfl, b, trivial⟩
  · have h2 := h.on b2
    refine call_m h2.M h2.ov h2.P (i := 0) rfl h2.T rfl rfl (fun k hk => hk ▸ h2.M.lt) R0.stab (fun W3 q b3 => ?_)
    have h3 := h2.on b3
    refine (run_go (E := fun k => k = m) (R := fun k v s x' _ => k = 0 ∧ v = valU ∧ s = ⟨#[]⟩ ∧ x' = { x with left := x.left - 1, calls := x.calls + 1 }) h3.M h3.ov rfl (fun k hk => hk ▸ h3.M.lt) (fun _ _ _ _ _ _ h _ => h) (fun k v s x' w' hr => ⟨by rw [hr.2.2.2]; exact h.ov, by omega, by omega⟩) (by omega) (by omega) (by omega) (by omega) (fun W4 y4 m4 => ?_)).mono ?_
    · exact enter_none m4 rfl rfl hb rfl (fun k hk => hk ▸ m4.lt) (show 0 ≤ x.calls ∧ x.calls ≤ 1048575 by omega)
    · rintro e w' ho
      refine ho.imp ?_
      rintro k2 v2 s2 x2 w1 ⟨k, v, s, x', ⟨rfl, rfl, rfl, rfl⟩, rfl, rfl, rfl, rfl⟩
      refine ⟨rfl, rfl, rfl, ?_⟩
      simp
/-- What the body writes down, and the end it tells. -/
structure BB (W : World) (m wb mb eb : Nat) (ke : Int) (ve : Val) (se : ByteArray) : Prop where
  w : ∃ old, W.heap[wb]? = some (.cells old 61 (0, 0)) ∧ old.size = 8
  m0 : W.heap[mb]? = some (.cells #[.int .i64 0] 3 (0, 0))
  e : W.heap[eb]? = some (.cells (celD ke ve se) 63 (0, 0))
theorem BB.keep {W W' : World} {m wb mb eb : Nat} {ke : Int} {ve : Val} {se : ByteArray} (h : BB W m wb mb eb ke ve se) (k : ∀ (j : Nat) (c : Array Value) (ty : TypeId), W.heap[j]? = some (.cells c ty (0, 0)) → ty ≠ 91 → W'.heap[j]? = W.heap[j]?) : BB W' m wb mb eb ke ve se := by
  obtain ⟨old, hw, h8⟩ := h.w
  exact ⟨⟨old, (k _ _ _ hw (by decide)).trans hw, h8⟩, (k _ _ _ h.m0 (by decide)).trans h.m0, (k _ _ _ h.e (by decide)).trans h.e⟩
theorem BB.on {W W' : World} {m wb mb eb : Nat} {ke : Int} {ve : Val} {se : ByteArray} (h : BB W m wb mb eb ke ve se) (b : Below W.heap.size W W') : BB W' m wb mb eb ke ve se := h.keep (fun _ _ _ hj _ => b.block _ (Array.getElem?_eq_some_iff.1 hj).1)
theorem BB.ey {W W' : World} {m wb mb eb : Nat} {ke : Int} {ve : Val} {se : ByteArray} {x : Mx} (h : BB W m wb mb eb ke ve se) (hM : Mc W m x) (b : Ey W.heap.size m W W') : BB W' m wb mb eb ke ve se := h.keep (fun _ _ _ hj ht => b.block _ (Array.getElem?_eq_some_iff.1 hj).1 (fun e => by rw [e, show W.heap[m]? = _ from hM] at hj; cases hj; exact ht rfl))
theorem BB.lt {W : World} {m wb mb eb : Nat} {ke : Int} {ve : Val} {se : ByteArray} (h : BB W m wb mb eb ke ve se) : wb < W.heap.size ∧ mb < W.heap.size := by
  obtain ⟨old, hw, _⟩ := h.w
  exact ⟨(Array.getElem?_eq_some_iff.1 hw).1, (Array.getElem?_eq_some_iff.1 h.m0).1⟩
theorem BB.ne {W : World} {m wb mb eb : Nat} {ke : Int} {ve : Val} {se : ByteArray} {x : Mx} (h : BB W m wb mb eb ke ve se) (hM : Mc W m x) : wb ≠ m ∧ mb ≠ m := by
  obtain ⟨old, hw, _⟩ := h.w
  refine ⟨?_, ?_⟩
  · rintro rfl; rw [show W.heap[wb]? = _ from hM] at hw; cases hw
  · rintro rfl; have := h.m0; rw [show W.heap[mb]? = _ from hM] at this; cases this
theorem RowB.ey {m : Nat} {l : List Val} {v : Value} {W W' : World} {x : Mx} (h : RowB m l v W) (_hM : Mc W m x) (b : Ey W.heap.size m W W') : RowB m l v W' := h.keep (fun g _ hg hc => b.block _ (Array.getElem?_eq_some_iff.1 hc).1 (by omega))
/-- What a call with the body tells. -/
def R1 (m wb mb : Nat) (ke : Int) (ve : Val) (v0 : Val) (l : List Val) : Int → Val → ByteArray → Mx → World → Prop := fun k v s _ w =>
  (k = outK ke ∧ v = outV ke ve ∧ s = ⟨#[]⟩) ∧ w.heap[mb]? = some (.cells #[.int .i64 1] 3 (0, 0)) ∧ ∃ sl, w.heap[wb]? = some (.cells (celE 0 v0 sl) 61 (0, 0)) ∧ RowB m l sl w
theorem R1.stab {m wb mb : Nat} {ke : Int} {ve : Val} {v0 : Val} {l : List Val} {E : Nat → Prop} (h1 : wb ≠ m) (h2 : mb ≠ m) : Stab m E (R1 m wb mb ke ve v0 l) := by
  rintro k v s x' w1 w2 ⟨h, hm, sl, hw, hr⟩ hk
  exact ⟨h, (hk _ _ _ _ hm (by decide) h2).trans hm, sl, (hk _ _ _ _ hw (by decide) h1).trans hw, hr.keep (fun g c hg hc => hk _ _ _ _ hc (by decide) (by omega))⟩
theorem call_b1 {W : World} {m t wb mb eb : Nat} {x : Mx} {room used : Nat} {ke : Int} {ve : Val} {se : ByteArray} {v0 : Val} {l : List Val} {A : Option Addr} {c : Nat} (h : MB W m t x room used) (hb : x.body = .func (.func 29) #[] #[.pointer (some ⟨wb, 0, none⟩), .pointer (some ⟨mb, 0, none⟩), .pointer (some ⟨eb, 0, none⟩)]) (hB : BB W m wb mb eb ke ve se) (hk : 0 ≤ ke ∧ ke ≤ 4) (hv : ValsAt W.heap.size W l A c) :
    Calls Tryz.prog 23 #[.pointer (some ⟨m, 0, none⟩), .agg (celX (vObj 0)), .agg (celX v0), .slice A l.length c] W (OutP W m (EBd m wb mb) (R1 m wb mb ke ve v0 l)) := by
  have hx := h.b
  have hn := hB.ne h.M
  have hEl : ∀ {W' : World}, W.heap.size ≤ W'.heap.size → ∀ k, EBd m wb mb k → k < W'.heap.size := by
    intro W' hs k hk
    have := h.M.lt
    have := hB.lt
    rcases hk with e | e | e <;> omega
  refine Call_m (i := 0) (P := fun v W => RowB m l v W) (.inl rfl) (hEl (Nat.le_refl _)) (R1.stab hn.1 hn.2) (fun W1 b1 => (clone_any ((hv.on b1).more b1.size)).mono ?_) (fun W2 B k d b2 hr2 => ?_)
  · rintro e w' ⟨v', rfl, ho, b⟩
    obtain ⟨A', c', rfl⟩ : ∃ A c, v' = .slice A l.length c := by
      rcases ho.2 with ⟨e, h0⟩ | ⟨g, cap, cur, e, _⟩
      · exact ⟨none, 0, by rw [e, h0]⟩
      · exact ⟨_, _, e⟩
    exact ⟨_, _, _, rfl, b, RowB.of ho (Nat.lt_of_lt_of_le h.M.lt b1.size)⟩
  · have h2 := h.on b2
    have B2 := hB.on b2
    obtain ⟨A2, c2, e2⟩ := hr2.slice
    cases e2
    refine call_m h2.M h2.ov h2.P (i := 0) rfl h2.T rfl (.inl rfl) (hEl b2.size) (R1.stab hn.1 hn.2) (fun W3 q b3 => ?_)
    have h3 := h2.on b3
    have B3 := B2.on b3
    have r3 := hr2.on b3
    refine (run_go (E := EBd m wb mb) (R := RB m wb mb ke ve se x.body v0 l) h3.M h3.ov (.inl rfl) (hEl (Nat.le_trans b2.size b3.size)) (RB.stab hn.1 hn.2) (fun k v s x' w' hr => ⟨hr.1.2.2.2.1, by have := hr.1.1; omega, by have := hr.1.1; omega⟩) (by omega) (by omega) (by omega) (by omega) (fun W4 y4 m4 => ?_)).mono ?_
    · have B4 := B3.ey h3.M y4
      have r4 := r3.ey h3.M y4
      have s4 : W.heap.size ≤ W4.heap.size := Nat.le_trans (Nat.le_trans b2.size b3.size) y4.size
      refine enter_body m4 rfl rfl hb (.inl rfl) (hEl s4) (RB.stab hn.1 hn.2) (fun k v s x' w' hr => hr.1.2.2.2.2) (show 0 ≤ x.calls ∧ x.calls ≤ 1048575 by omega) (fun W5 y5 m5 => ?_)
      have B5 := B4.ey m4 y5
      obtain ⟨old, hw5, h8⟩ := B5.w
      exact body1 (x := { x with left := x.left - 1, calls := x.calls + 1 }) m5 h.ov (show 0 ≤ x.calls + 1 ∧ x.calls + 1 ≤ 1048576 by omega) hw5 h8 B5.m0 B5.e (r4.ey m4 y5)
    · rintro e w' ho
      refine ho.imp ?_
      rintro k2 v2 s2 x2 w1 ⟨k, v, s, x', ⟨⟨rfl, rfl, rfl, -, -⟩, hm1, hw1⟩, rfl, rfl, rfl, rfl⟩
      exact ⟨⟨rfl, rfl, rfl⟩, hm1, hw1⟩
end Go.Proofs.YtmlgjijjkikkhaaGreatDoor
