/-
  call and Call: of a function that is there.
-/
import Derived.Test.YtmlgjijjkikkhaaGreatDoorN11
namespace Go.Proofs.YtmlgjijjkikkhaaGreatDoor
open Go.RowKit
attribute [local go_sem] stF neqM eqS neqNat neqBody neqBody0
abbrev celX (v : Val) : Array Value := #[.int .i64 v.vk, .bool v.vb, .float .f64 v.vn, .string v.vs, .int .i64 v.vo]
/-- The blocks of call's own. -/
structure CaF (w W : World) (E : Nat → Prop) (f v0 : Val) : Prop where
  k0 : W.heap[w.heap.size]? = some (.cells (celX f) 57 (0, 0))
  k1 : W.heap[w.heap.size + 1]? = some (.cells (celX v0) 57 (0, 0))
  k2 : W.heap[w.heap.size + 2]? = some (.cells zD 63 (0, 0))
  z : Ez w.heap.size E w W
  e : ∀ k, E k → k < w.heap.size
theorem CaF.lt {w W : World} {E : Nat → Prop} {f v0 : Val} (h : CaF w W E f v0) : w.heap.size + 2 < W.heap.size := (Array.getElem?_eq_some_iff.1 h.k2).1
theorem CaF.ez {w W W' : World} {E : Nat → Prop} {f v0 : Val} (h : CaF w W E f v0) (k : Ez W.heap.size E W W') : CaF w W' E f v0 := by
  have hl := h.lt
  have ht : ∀ j, w.heap.size ≤ j → j < w.heap.size + 3 → W'.heap[j]? = W.heap[j]? := fun j h1 h2 => k.block j (by omega) (fun he => by have := h.e j he; omega)
  exact ⟨(ht _ (by omega) (by omega)).trans h.k0, (ht _ (by omega) (by omega)).trans h.k1, (ht _ (by omega) (by omega)).trans h.k2, h.z.trans (k.mono (by omega)), h.e⟩
theorem CaF.on {w W W' : World} {E : Nat → Prop} {f v0 : Val} (h : CaF w W E f v0) (k : Below W.heap.size W W') : CaF w W' E f v0 := h.ez (Ez.of k)
theorem CaF.new (w : World) (E : Nat → Prop) (f v0 : Val) (he : ∀ k, E k → k < w.heap.size) :
    CaF w (((w.alloc (.cells (celX f) 57)).alloc (.cells (celX v0) 57)).alloc (.cells zD 63)) E f v0 := by
  obtain ⟨W1, h1⟩ : ∃ W1, w.alloc (.cells (celX f) 57) = W1 := ⟨_, rfl⟩
  have a1 := new1 w (celX f) 57
  have s1 : W1.heap.size = w.heap.size + 1 := by rw [← h1]; simp
  have b1 := below_a1 w (.cells (celX f) 57)
  rw [h1] at a1 b1 ⊢
  obtain ⟨W2, h2⟩ : ∃ W2, W1.alloc (.cells (celX v0) 57) = W2 := ⟨_, rfl⟩
  have a2 := new1 W1 (celX v0) 57
  have s2 : W2.heap.size = w.heap.size + 2 := by rw [← h2]; simp [s1]
  have b2 := below_a1 W1 (.cells (celX v0) 57)
  rw [h2] at a2 b2 ⊢
  have a3 := new1 W2 zD 63
  have b3 := below_a1 W2 (.cells zD 63)
  rw [s1] at a2
  rw [s2] at a3
  exact ⟨(b3.block _ (by omega)).trans ((b2.block _ (by omega)).trans a1), (b3.block _ (by omega)).trans a2, a3,
    Ez.of (b1.trans ((b2.mono (by omega)).trans (b3.mono (by omega)))), he⟩
theorem HobE.ez {W W' : World} {t : Nat} {y : Ob} {sP sB : Value} {E : Nat → Prop} (h : HobE W t y sP sB) (k : Ez W.heap.size E W W') (hn : ¬ E t) : HobE W' t y sP sB := by
  obtain ⟨q, h⟩ := h
  exact ⟨q, (k.block _ (Array.getElem?_eq_some_iff.1 h).1 hn).trans h⟩
/-- The value of an object's number. -/
abbrev vObj (i : Nat) : Val := { vk := 5, vb := false, vn := 0, vs := ⟨#[]⟩, vo := i }
set_option maxRecDepth 100000 in
set_option maxHeartbeats 4000000 in
theorem call_m {w : World} {m room used i t : Nat} {x : Mx} {l : List Nat} {y : Ob} {v0 : Val} {A : Option Addr} {n c : Nat} {E : Nat → Prop} {R : Int → Val → ByteArray → Mx → World → Prop} (h : Mc w m x) (ho : x.ov = false) (hp : Hp x.hb room used l w) (hi : l[i]? = some t) (hy : HobE w t y (.slice none 0 0) (.slice none 0 0)) (hc : y.oc = 2) (hE : E m) (hEl : ∀ k, E k → k < w.heap.size) (hst : Stab m E R)
    (hC : ∀ W q, Below w.heap.size w W → Calls Tryz.prog 59 #[.pointer (some ⟨m, 0, none⟩), .agg (celO y (.slice (some ⟨q, 0, none⟩) 0 0) (.slice none 0 0)), .agg (celE i v0 (.slice A n c))] W (OutP W m E R)) :
    Calls Tryz.prog 45 #[.pointer (some ⟨m, 0, none⟩), .agg (celX (vObj i)), .agg (celX v0), .slice A n c] w (OutP w m E R) := by
  have cf := CaF.new w E (vObj i) v0 hEl
  have bw : Below w.heap.size w (((w.alloc (.cells (celX (vObj i)) 57)).alloc (.cells (celX v0) 57)).alloc (.cells zD 63)) := (below_a2 w _ _).trans ((below_a1 _ _).mono (by simp; omega))
  go_enter Tryz.func45, Tryz.ntmps45
  go_upto_region 1 with fail
  obtain ⟨W1, hW1⟩ : ∃ W1, (((w.alloc (.cells (celX (vObj i)) 57)).alloc (.cells (celX v0) 57)).alloc (.cells zD 63)) = W1 := ⟨_, rfl⟩
  rw [hW1] at cf bw ⊢
  clear hW1
  have C1 := Lib.hid (on_m (h.on bw))
  rw [ho] at C1
  have C2 := Lib.hid (function_m (h.on bw) (hp.on bw) hi (hy.on bw) hc)
  have HC := Lib.hid hC
  have HEl := Lib.hid hEl
  have B1 := Lib.hid bw
  have F1 := Lib.hid cf
  clear h ho hp hi hy hc hEl hC bw cf
  go_wp2_with fail
  refine C1.out.mono ?_
  rintro e w' ⟨rfl, rfl⟩
  clear C1
  go_wp2_with (refine ldL (k := 18) (run_loadVar_row _ w.heap.size 57 57 _ (0, 0) _ F1.out.k0 Tryz.underlying57 rfl (by kernel_rfl)) rfl (by kernel_rfl) rfl rfl ?_)
  refine C2.out.mono ?_
  rintro e W2 ⟨⟨q, rfl⟩, b2⟩
  have f2 := F1.out.on b2
  have bA := below_a1 W2 (.cells (celO y (.slice (some ⟨q, 0, none⟩) 0 0) (.slice none 0 0)) 70)
  have n3 := new1 W2 (celO y (.slice (some ⟨q, 0, none⟩) 0 0) (.slice none 0 0)) 70
  have F3 := Lib.hid (f2.on bA)
  have B3 := Lib.hid ((B1.out.trans (b2.mono B1.out.size)).trans (bA.mono (Nat.le_trans B1.out.size b2.size)))
  have N3 := Lib.hid n3
  have z3 := new1 W2 zO 70
  clear C2 b2 f2 bA n3 F1 B1
  go_upto_region 4 with (refine wpList_store_row rfl 70 _ _ rfl W2.heap.size _ rfl rfl 70 _ z3 (by kernel_rfl) rfl (by kernel_rfl) ?_)
  rw [World.setRow_alloc_new]
  obtain ⟨W3, hW3⟩ : ∃ W3, W2.alloc (.cells (celO y (.slice (some ⟨q, 0, none⟩) 0 0) (.slice none 0 0)) 70) = W3 := ⟨_, rfl⟩
  rw [hW3] at F3 B3 N3 ⊢
  have d4 : W3.cell? ⟨w.heap.size, 4, none⟩ = some (.int .i64 i) := (cell_of_row W3 _ 4 _ _ _ F3.out.k0).trans rfl
  clear z3 hW3
  go_wp2_with (first | refine ldL (k := 27) (run_loadVar_row _ W2.heap.size 70 70 _ (0, 0) _ N3.out Tryz.underlying70 rfl (by kernel_rfl)) rfl (by kernel_rfl) rfl rfl ?_ | refine ldL (k := 30) (run_loadVar_row _ (w.heap.size + 1) 57 57 _ (0, 0) _ F3.out.k1 Tryz.underlying57 rfl (by kernel_rfl)) rfl (by kernel_rfl) rfl rfl ?_)
  refine (HC.out W3 q B3.out).mono ?_
  rintro e W4 ⟨k, v, s, x', rfl, r4, m4, z4⟩
  have F4 := Lib.hid (F3.out.ez z4)
  have R4 := Lib.hid r4
  have M4 := Lib.hid m4
  clear HC F3 B3 N3 d4 r4 m4 z4
  go_wp2_with (refine wpList_store_row rfl 63 _ _ rfl (w.heap.size + 2) _ rfl rfl 63 _ F4.out.k2 (by kernel_rfl) rfl (by kernel_rfl) ?_)
  refine cR1 rfl rfl (run_loadVar_row _ (w.heap.size + 2) 63 63 (celD k v s) (0, 0) _ (setRow_heap _ _ _ _ _ _ F4.out.k2) Tryz.underlying63 rfl (by kernel_rfl)) rfl
    ⟨k, v, s, x', rfl, hst _ _ _ _ _ _ R4.out (Kq.setRow F4.out.k2 _), ?_, F4.out.z.trans (Ez.of (below_setRowK (Below.refl _ _) (by omega) _))⟩
  exact (setRow_other _ _ _ _ (by have := HEl.out m hE; omega)).trans M4.out
set_option maxRecDepth 100000 in
set_option maxHeartbeats 4000000 in
theorem Call_m {w : World} {m i : Nat} {v0 : Val} {A : Option Addr} {n c : Nat} {E : Nat → Prop} {R : Int → Val → ByteArray → Mx → World → Prop} {P : Value → World → Prop} (hE : E m) (hEl : ∀ k, E k → k < w.heap.size) (hst : Stab m E R)
    (hcl : ∀ W, Below w.heap.size w W → Calls Tryz.prog 46 #[.slice A n c] W fun e w' => ∃ B k d, e = .returned (.slice B k d) ∧ Below W.heap.size W w' ∧ P (.slice B k d) w')
    (hC : ∀ W B k d, Below w.heap.size w W → P (.slice B k d) W → Calls Tryz.prog 45 #[.pointer (some ⟨m, 0, none⟩), .agg (celX (vObj i)), .agg (celX v0), .slice B k d] W (OutP W m E R)) :
    Calls Tryz.prog 23 #[.pointer (some ⟨m, 0, none⟩), .agg (celX (vObj i)), .agg (celX v0), .slice A n c] w (OutP w m E R) := by
  have cf := CaF.new w E (vObj i) v0 hEl
  have bw : Below w.heap.size w (((w.alloc (.cells (celX (vObj i)) 57)).alloc (.cells (celX v0) 57)).alloc (.cells zD 63)) := (below_a2 w _ _).trans ((below_a1 _ _).mono (by simp; omega))
  go_enter Tryz.func23, Tryz.ntmps23
  go_upto_region 1 with fail
  obtain ⟨W1, hW1⟩ : ∃ W1, (((w.alloc (.cells (celX (vObj i)) 57)).alloc (.cells (celX v0) 57)).alloc (.cells zD 63)) = W1 := ⟨_, rfl⟩
  rw [hW1] at cf bw ⊢
  clear hW1
  have HCl := Lib.hid (hcl _ bw.drew)
  have HC := Lib.hid hC
  have HEl := Lib.hid hEl
  have B1 := Lib.hid bw
  clear hcl hC hEl bw
  have F1 := Lib.hid (cf.on (Below.refl _ _).drew)
  refine wp_region_held_drew (S := fun W => W.heap[w.heap.size]? = some (.cells (celX (vObj i)) 57 (0, 0)) ∧ W.heap[w.heap.size + 1]? = some (.cells (celX v0) 57 (0, 0))) (by kernel_rfl) ⟨F1.out.k0, F1.out.k1⟩ (fun hHeld => ?_)
  clear cf
  refine take_s (i := 0) rfl (by kernel_rfl) (by kernel_rfl) (by kernel_rfl) (fun _ _ _ h => h) (Or.inl ⟨by rfl, by (intro w' hSw; go_simp; try with_reducible rfl)⟩) rfl (by assumption) ?_; simp only [lset]
  refine take_s (v := .agg (celX (vObj i))) (i := 1) rfl (by kernel_rfl) (by kernel_rfl) (by kernel_rfl) (fun _ _ _ h => h) (Or.inl ⟨by rfl, by (intro w' hSw; exact ldRow_run (run_loadVar_row w' w.heap.size 57 57 (celX (vObj i)) (0, 0) _ hSw.1 Tryz.underlying57 rfl (by kernel_rfl)) rfl rfl)⟩) rfl (by assumption) ?_; simp only [lset]
  refine take_s (v := .agg (celX v0)) (i := 2) rfl (by kernel_rfl) (by kernel_rfl) (by kernel_rfl) (fun _ _ _ h => h) (Or.inl ⟨by rfl, by (intro w' hSw; exact ldRow_run (run_loadVar_row w' (w.heap.size + 1) 57 57 (celX v0) (0, 0) _ hSw.2 Tryz.underlying57 rfl (by kernel_rfl)) rfl rfl)⟩) rfl (by assumption) ?_; simp only [lset]
  refine take_s (i := 3) rfl (by kernel_rfl) (by kernel_rfl) (by kernel_rfl) (fun _ _ _ h => h) (Or.inl ⟨by rfl, by (intro w' hSw; go_simp; try with_reducible rfl)⟩) rfl (by assumption) ?_; simp only [lset]
  refine call_s (i := 4) (by kernel_rfl) rfl rfl (by rfl) (fun K hK => ?_)
  go_simp
  with_reducible refine HCl.out.mono ?_
  rintro e W2 ⟨B, k, d, rfl, b2, p2⟩
  have F2 := Lib.hid (F1.out.on b2)
  have hHeld2 := And.intro F2.out.k0 F2.out.k1
  have B2 := Lib.hid (B1.out.drew.trans (b2.mono (show w.heap.size ≤ W1.heap.size from B1.out.size)))
  have C2 := Lib.hid (HC.out W2 B k d B2.out p2)
  refine hK.out _ _ hHeld2 ?_; clear hK K hHeld b2 p2 HCl HC B1; simp only [lset]
  have hHeld := hHeld2
  clear hHeld2
  refine call_s (i := 5) (by kernel_rfl) rfl rfl (by rfl) (fun K hK => ?_)
  go_simp
  with_reducible refine C2.out.mono ?_
  rintro e W4 ⟨k4, v, s, x', rfl, r4, m4, z4⟩
  have F4 := Lib.hid (F2.out.ez z4)
  have R4 := Lib.hid r4
  have M4 := Lib.hid m4
  refine hK.out _ _ ⟨F4.out.k0, F4.out.k1⟩ ?_; clear hK K hHeld r4 m4 z4 C2 B2 F1 F2; simp only [lset]
  refine step_n (i := 6) (by kernel_rfl) rfl rfl (by rfl) (fun K hK => ?_)
  refine wp_store_row 63 _ _ rfl (w.heap.size + 2) _ rfl rfl 63 _ F4.out.k2 (by kernel_rfl) rfl (by kernel_rfl) ?_
  refine hK.out undef _ ⟨(setRow_other _ _ _ _ (by omega)).trans F4.out.k0, (setRow_other _ _ _ _ (by omega)).trans F4.out.k1⟩ ?_; clear hK K
  refine wpAnyH_done (by kernel_rfl) ?_ _
  go_wp2_with fail
  refine cR1 rfl rfl (run_loadVar_row _ (w.heap.size + 2) 63 63 (celD k4 v s) (0, 0) _ (setRow_heap _ _ _ _ _ _ F4.out.k2) Tryz.underlying63 rfl (by kernel_rfl)) rfl
    ⟨k4, v, s, x', rfl, hst _ _ _ _ _ _ R4.out (Kq.setRow F4.out.k2 _), ?_, F4.out.z.trans (Ez.of (below_setRowK (Below.refl _ _) (by omega) _))⟩
  exact (setRow_other _ _ _ _ (by have := HEl.out m hE; omega)).trans M4.out
end Go.Proofs.YtmlgjijjkikkhaaGreatDoor
