/-
  Fuel, depth, and what a function's object is.
-/
import Derived.Test.YtmlgjijjkikkhaaGreatDoorM2
import Derived.Lib.SliceRun
namespace Go.Proofs.YtmlgjijjkikkhaaGreatDoor
open Go.RowKit
attribute [local go_sem] stF neqM eqS
set_option maxRecDepth 100000 in
set_option maxHeartbeats 2000000 in
theorem spend_1 {w : World} {m : Nat} {x : Mx} (h : Mc w m x) (ho : x.ov = false) (h1 : 1 ≤ x.left) (h2 : x.left ≤ 9223372036854775807) : Calls Tryz.prog 80 #[.pointer (some ⟨m, 0, none⟩), .int .i64 1] w fun e w' => e = .returned (.bool true) ∧ Mc w' m { x with left := x.left - 1 } ∧ Ey w.heap.size m w w' := by
  have c6 : w.cell? ⟨m, 6, none⟩ = some (.int .i64 x.left) := h.cell rfl
  have f6 := h.frozen 6
  have q1 : decide (x.left < 1) = false := decide_eq_false (by omega)
  have q2 : wrap64 (x.left - 1) = x.left - 1 := by unfold wrap64; omega
  have H2 := Lib.hid (h.set 6 (.int .i64 (x.left - 1)) { x with left := x.left - 1 } rfl)
  have E2 := Lib.hid (ey_set w m 6 (.int .i64 (x.left - 1)))
  have C1 := Lib.hid (on_m h)
  rw [ho] at C1
  obtain ⟨L, hL⟩ : ∃ L, x.left = L := ⟨_, rfl⟩
  rw [hL] at c6 q1 q2 H2 E2 ⊢
  clear h h1 h2 ho
  go_enter Tryz.func80, Tryz.ntmps80
  go_wp2_with fail
  refine C1.out.mono ?_
  rintro e w' ⟨rfl, rfl⟩
  clear C1
  go_wp2
  go_ret
  exact ⟨rfl, H2.out, E2.out⟩
set_option maxRecDepth 100000 in
set_option maxHeartbeats 2000000 in
theorem spend_0 {w : World} {m : Nat} {x : Mx} (h : Mc w m x) (ho : x.ov = false) (h1 : x.left = 0) : Calls Tryz.prog 80 #[.pointer (some ⟨m, 0, none⟩), .int .i64 1] w fun e w' => e = .returned (.bool false) ∧ Mc w' m { x with left := 0, ov := true } ∧ Ey w.heap.size m w w' := by
  have c6 : w.cell? ⟨m, 6, none⟩ = some (.int .i64 0) := h1 ▸ h.cell rfl
  have f6 := h.frozen 6
  have h2 := h.set 6 (.int .i64 0) { x with left := 0 } rfl
  have E2 := Lib.hid (ey_set w m 6 (.int .i64 0))
  have C1 := Lib.hid (on_m h)
  have C2 := Lib.hid (stop_m h2)
  rw [ho] at C1
  clear h h1 ho h2
  go_enter Tryz.func80, Tryz.ntmps80
  go_wp2_with fail
  refine C1.out.mono ?_
  rintro e w' ⟨rfl, rfl⟩
  clear C1
  go_wp2_with fail
  refine C2.out.mono ?_
  rintro e w3 ⟨rfl, h3, e3⟩
  have H3 := Lib.hid h3
  have E3 := Lib.hid (E2.out.trans (e3.mono (by simp [World.setCell])))
  clear C2 h3 e3 E2
  go_wp2
  go_ret
  exact ⟨rfl, H3.out, E3.out⟩
set_option maxRecDepth 100000 in
set_option maxHeartbeats 2000000 in
theorem deep_m {w : World} {m : Nat} {x : Mx} (h : Mc w m x) (h1 : 0 ≤ x.calls ∧ x.calls ≤ 1048576) (h2 : 0 ≤ x.nest ∧ x.nest ≤ 1048576) : Calls Tryz.prog 81 #[.pointer (some ⟨m, 0, none⟩)] w fun e w' => e = .returned (.bool (decide (x.l3 ≤ x.calls + x.nest))) ∧ Below w.heap.size w w' := by
  have c5 : w.cell? ⟨m, 5, none⟩ = some (.int .i64 x.l3) := h.cell rfl
  have c29 : w.cell? ⟨m, 29, none⟩ = some (.int .i64 x.calls) := h.cell rfl
  have c30 : w.cell? ⟨m, 30, none⟩ = some (.int .i64 x.nest) := h.cell rfl
  have q2 : wrap64 (x.calls + x.nest) = x.calls + x.nest := by unfold wrap64; omega
  clear h h1 h2
  go_enter Tryz.func81, Tryz.ntmps81
  have HB := Lib.hid (fun n => below_drewN' (Below.refl w.heap.size w) n)
  go_wp2
  go_quiet (skip)
  go_wp2
  go_ret
  exact ⟨rfl, HB.out _⟩
set_option maxRecDepth 100000 in
set_option maxHeartbeats 2000000 in
theorem bound_no {y : Ob} {q : Nat} {w : World} : Calls Tryz.prog 109 #[.agg (celO y (.slice (some ⟨q, 0, none⟩) 0 0) (.slice none 0 0))] w fun e w' => e = .returned (.bool false) ∧ Below w.heap.size w w' := by
  have n1 := new1 w (celO y (.slice (some ⟨q, 0, none⟩) 0 0) (.slice none 0 0)) 70
  have B1 := Lib.hid (below_a1 w (.cells (celO y (.slice (some ⟨q, 0, none⟩) 0 0) (.slice none 0 0)) 70))
  go_enter Tryz.func109, Tryz.ntmps109
  go_upto_region 1 with fail
  obtain ⟨W1, hW1⟩ : ∃ W1, w.alloc (.cells (celO y (.slice (some ⟨q, 0, none⟩) 0 0) (.slice none 0 0)) 70) = W1 := ⟨_, rfl⟩
  rw [hW1] at n1 B1 ⊢
  have d12 : W1.cell? ⟨w.heap.size, 12, none⟩ = some (.slice none 0 0) := (cell_of_row W1 _ 12 _ _ _ n1).trans rfl
  clear n1 hW1
  go_wp2
  go_ret
  exact ⟨rfl, B1.out⟩
/-- One native is registered: its row's block. -/
def NatR (W : World) (v fv : Value) : Prop := ∃ g cap cur, v = .slice (some ⟨g, 0, none⟩) 1 cap ∧ W.heap[g]? = some (.cells cur 99 (0, 0)) ∧ cur[0]? = some fv ∧ 1 ≤ cap
theorem NatR.on {W W' : World} {v fv : Value} (h : NatR W v fv) (b : Below W.heap.size W W') : NatR W' v fv := by
  obtain ⟨g, cap, cur, e, hg, h1, h2⟩ := h
  exact ⟨g, cap, cur, e, (b.block _ (Array.getElem?_eq_some_iff.1 hg).1).trans hg, h1, h2⟩
set_option maxRecDepth 100000 in
set_option maxHeartbeats 2000000 in
theorem native_yes {y : Ob} {q m : Nat} {x : Mx} {fv : Value} {w : World} (h : Mc w m x) (hn : NatR w x.nats fv) (hy : y.on = 1) : Calls Tryz.prog 111 #[.pointer (some ⟨m, 0, none⟩), .agg (celO y (.slice (some ⟨q, 0, none⟩) 0 0) (.slice none 0 0))] w fun e w' => e = .returned (.bool true) ∧ Below w.heap.size w w' := by
  obtain ⟨g, cap, cur, e, hg, h1, h2⟩ := hn
  have n1 := new1 w (celO y (.slice (some ⟨q, 0, none⟩) 0 0) (.slice none 0 0)) 70
  have b1 := below_a1 w (.cells (celO y (.slice (some ⟨q, 0, none⟩) 0 0) (.slice none 0 0)) 70)
  have h1 := h.on b1
  go_enter Tryz.func111, Tryz.ntmps111
  go_upto_region 1 with fail
  obtain ⟨W1, hW1⟩ : ∃ W1, w.alloc (.cells (celO y (.slice (some ⟨q, 0, none⟩) 0 0) (.slice none 0 0)) 70) = W1 := ⟨_, rfl⟩
  rw [hW1] at n1 b1 h1 ⊢
  have d9 : W1.cell? ⟨w.heap.size, 9, none⟩ = some (.int .i64 1) := hy ▸ (cell_of_row W1 _ 9 _ _ _ n1).trans rfl
  have c25 : W1.cell? ⟨m, 25, none⟩ = some (.slice (some ⟨g, 0, none⟩) 1 cap) := e ▸ h1.cell rfl
  have HB := Lib.hid (fun n => below_drewN' b1 n)
  clear n1 hW1 b1 h1 h
  go_quiet (fail)
  go_wp2
  go_ret
  exact ⟨rfl, HB.out _⟩
set_option maxRecDepth 100000 in
set_option maxHeartbeats 2000000 in
theorem native_no {y : Ob} {q m : Nat} {w : World} (hy : y.on = 0) : Calls Tryz.prog 111 #[.pointer (some ⟨m, 0, none⟩), .agg (celO y (.slice (some ⟨q, 0, none⟩) 0 0) (.slice none 0 0))] w fun e w' => e = .returned (.bool false) ∧ Below w.heap.size w w' := by
  have n1 := new1 w (celO y (.slice (some ⟨q, 0, none⟩) 0 0) (.slice none 0 0)) 70
  have b1 := below_a1 w (.cells (celO y (.slice (some ⟨q, 0, none⟩) 0 0) (.slice none 0 0)) 70)
  go_enter Tryz.func111, Tryz.ntmps111
  go_upto_region 1 with fail
  obtain ⟨W1, hW1⟩ : ∃ W1, w.alloc (.cells (celO y (.slice (some ⟨q, 0, none⟩) 0 0) (.slice none 0 0)) 70) = W1 := ⟨_, rfl⟩
  rw [hW1] at n1 b1 ⊢
  have d9 : W1.cell? ⟨w.heap.size, 9, none⟩ = some (.int .i64 0) := hy ▸ (cell_of_row W1 _ 9 _ _ _ n1).trans rfl
  have HB := Lib.hid (fun n => below_drewN' b1 n)
  clear n1 hW1 b1
  go_quiet (fail)
  go_wp2
  go_ret
  exact ⟨rfl, HB.out _⟩
/-- Two operations are ready: either comes first. -/
theorem call2_s {P : Program} {md : Region.Mode} {ops : Array Oper} {Q : Exit → Act → World → Prop} {S : World → Prop} {i j k k' fuel : Nat} {oi oj : Oper} {listed : Array Bool} {l : List Value} {d : List Deferred} {w : World}
    (hr : Region.ready md ops listed = [i, j]) (hi : ops[i]? = some oi) (hd : oi.dst = some k) (hw : Region.wanted oi (yielded ops l.toArray) = true)
    (hj : ops[j]? = some oj) (hd' : oj.dst = some k') (hw' : Region.wanted oj (yielded ops l.toArray) = true)
    (h : ∀ K : Act → World → Prop, Hid (∀ v w', S w' → wpAnyH P md ops Q S fuel (listed.setIfInBounds i true) { tmps := (lset l k v).toArray, defers := d } w' → K (Act.put { tmps := l.toArray, defers := d } oi.dst v) w') → Oper.wp P oi { tmps := l.toArray, defers := d } w K Q)
    (h' : ∀ K : Act → World → Prop, Hid (∀ v w', S w' → wpAnyH P md ops Q S fuel (listed.setIfInBounds j true) { tmps := (lset l k' v).toArray, defers := d } w' → K (Act.put { tmps := l.toArray, defers := d } oj.dst v) w') → Oper.wp P oj { tmps := l.toArray, defers := d } w K Q) :
    wpAnyH P md ops Q S (fuel + 1) listed { tmps := l.toArray, defers := d } w :=
  wpAnyH_ready hr (by simp) (AllReadyH.cons hi (fun K hK => by
    rw [if_pos hw]
    refine h K (Lib.hid fun v w' hS hW => ?_)
    refine hK.out _ _ hS (fun _ => ?_)
    rw [hd, put_l]
    exact hW) (AllReadyH.cons hj (fun K hK => by
    rw [if_pos hw']
    refine h' K (Lib.hid fun v w' hS hW => ?_)
    refine hK.out _ _ hS (fun _ => ?_)
    rw [hd', put_l]
    exact hW) AllReadyH.nil))
set_option maxRecDepth 100000 in
set_option maxHeartbeats 2000000 in
theorem function_m {w : World} {m room used i t : Nat} {x : Mx} {l : List Nat} {y : Ob} (h : Mc w m x) (hp : Hp x.hb room used l w) (hi : l[i]? = some t) (hy : HobE w t y (.slice none 0 0) (.slice none 0 0)) (hc : y.oc = 2) :
    Calls Tryz.prog 57 #[.pointer (some ⟨m, 0, none⟩), .agg #[.int .i64 5, .bool false, .float .f64 0, .string ⟨#[]⟩, .int .i64 i]] w fun e w' => (∃ q, e = .returned (.tuple #[.agg (celO y (.slice (some ⟨q, 0, none⟩) 0 0) (.slice none 0 0)), .bool true])) ∧ Below w.heap.size w w' := by
  have b1 := below_a2 w (.cells #[.int .i64 5, .bool false, .float .f64 0, .string ⟨#[]⟩, .int .i64 i] 57) (.cells zO 70)
  have h1 := h.on b1
  have p1 := hp.on b1
  have y1 := hy.on b1
  have k1 : ((w.alloc (.cells #[.int .i64 5, .bool false, .float .f64 0, .string ⟨#[]⟩, .int .i64 i] 57)).alloc (.cells zO 70)).heap[w.heap.size]? = some (.cells #[.int .i64 5, .bool false, .float .f64 0, .string ⟨#[]⟩, .int .i64 i] 57 (0, 0)) := ((below_a1 _ _).block _ (by simp)).trans (new1 w _ _)
  have k2 : ((w.alloc (.cells #[.int .i64 5, .bool false, .float .f64 0, .string ⟨#[]⟩, .int .i64 i] 57)).alloc (.cells zO 70)).heap[w.heap.size + 1]? = some (.cells zO 70 (0, 0)) := by
    have := new1 (w.alloc (.cells #[.int .i64 5, .bool false, .float .f64 0, .string ⟨#[]⟩, .int .i64 i] 57)) zO 70
    simpa using this
  go_enter Tryz.func57, Tryz.ntmps57
  go_upto_region 1 with fail
  obtain ⟨W1, hW1⟩ : ∃ W1, (w.alloc (.cells #[.int .i64 5, .bool false, .float .f64 0, .string ⟨#[]⟩, .int .i64 i] 57)).alloc (.cells zO 70) = W1 := ⟨_, rfl⟩
  rw [hW1] at b1 h1 p1 y1 k1 k2 ⊢
  have d0 : W1.cell? ⟨w.heap.size, 0, none⟩ = some (.int .i64 5) := (cell_of_row W1 _ 0 _ _ _ k1).trans rfl
  have C2 := Lib.hid (fun W (hb : Below W1.drew.heap.size W1.drew W) => object_hp ((p1.on (Below.refl _ _).drew).on hb) hi ((y1.on (Below.refl _ _).drew).on hb))
  have H1 := Lib.hid h1
  have K1 := Lib.hid k1
  have K2 := Lib.hid k2
  have B1 := Lib.hid b1
  clear b1 h1 p1 y1 k1 k2 hW1 h hp hi hy
  go_upto_region 3 with fail
  clear d0
  refine wp_region_held_drew (S := fun W => Mc W m x ∧ W.heap[w.heap.size]? = some (.cells #[.int .i64 5, .bool false, .float .f64 0, .string ⟨#[]⟩, .int .i64 i] 57 (0, 0))) (by kernel_rfl) ⟨H1.out, K1.out⟩ (fun hHeld => ?_)
  refine take_s (i := 0) rfl (by kernel_rfl) (by kernel_rfl) (by kernel_rfl) (fun _ _ _ h => h) (Or.inl ⟨by rfl, by (intro w' hSw; go_simp; try with_reducible rfl)⟩) rfl (by assumption) ?_; simp only [lset]
  refine take_s (i := 1) rfl (by kernel_rfl) (by kernel_rfl) (by kernel_rfl) (fun _ _ _ h => h) (Or.inl ⟨by rfl, by (intro w' hSw; go_simp; try with_reducible rfl)⟩) rfl (by assumption) ?_; simp only [lset]
  refine take_s (i := 2) rfl (by kernel_rfl) (by kernel_rfl) (by kernel_rfl) (fun _ _ _ h => h) (Or.inl ⟨by rfl, by (intro w' hSw; go_simp; try with_reducible rfl)⟩) rfl (by assumption) ?_; simp only [lset]
  refine take_s (v := .pointer (some ⟨x.hb, 0, none⟩)) (i := 3) rfl (by kernel_rfl) (by kernel_rfl) (by kernel_rfl) (fun _ _ _ h => h) (Or.inl ⟨by rfl, by (intro w' hSw; have c := hSw.1.cell (k := 7) (u := .pointer (some ⟨x.hb, 0, none⟩)) rfl; go_simp)⟩) rfl (by assumption) ?_; simp only [lset]
  refine take_s (i := 4) rfl (by kernel_rfl) (by kernel_rfl) (by kernel_rfl) (fun _ _ _ h => h) (Or.inl ⟨by rfl, by (intro w' hSw; go_simp; try with_reducible rfl)⟩) rfl (by assumption) ?_; simp only [lset]
  refine take_s (v := .int .i64 i) (i := 5) rfl (by kernel_rfl) (by kernel_rfl) (by kernel_rfl) (fun _ _ _ h => h) (Or.inl ⟨by rfl, by (intro w' hSw; have c := (cell_of_row w' w.heap.size 4 _ _ _ hSw.2).trans (show (#[Value.int .i64 5, .bool false, .float .f64 0, .string ⟨#[]⟩, .int .i64 i] : Array Value)[4]? = some (.int .i64 i) from rfl); go_simp)⟩) rfl (by assumption) ?_; simp only [lset]
  refine call2_s (i := 6) (j := 10) (by kernel_rfl) rfl rfl (by rfl) rfl rfl (by rfl) (fun K hK => ?_) (fun K hK => ?_)
  · skip
    go_simp
    with_reducible refine (C2.out W1.drew (Below.refl _ _)).mono ?_
    rintro e w2 ⟨⟨q, rfl⟩, b2⟩
    have hN := (Array.getElem?_eq_some_iff.1 K2.out).1
    have hHeld2 : Mc w2 m x ∧ w2.heap[w.heap.size]? = some (.cells #[.int .i64 5, .bool false, .float .f64 0, .string ⟨#[]⟩, .int .i64 i] 57 (0, 0)) := ⟨Mc.on (show Mc W1.drew m x from H1.out) b2, (b2.block _ (show w.heap.size < W1.heap.size by omega)).trans K1.out⟩
    have R2 := Lib.hid (show w2.heap[w.heap.size + 1]? = some (.cells zO 70 (0, 0)) from (b2.block _ (show w.heap.size + 1 < W1.heap.size from hN)).trans K2.out)
    have B2 := Lib.hid (B1.out.drew.trans (b2.mono (show w.heap.size ≤ W1.heap.size from B1.out.size)))
    refine hK.out _ _ hHeld2 ?_; clear hK K hHeld b2 C2 B1 H1 K1 K2 hN; simp only [lset]
    have hHeld := hHeld2
    clear hHeld2
    refine take_s (i := 7) rfl (by kernel_rfl) (by kernel_rfl) (by kernel_rfl) (fun _ _ _ h => h) (Or.inl ⟨by rfl, by (intro w' hSw; go_simp; try with_reducible rfl)⟩) rfl (by assumption) ?_; simp only [lset]
    refine take_s (i := 8) rfl (by kernel_rfl) (by kernel_rfl) (by kernel_rfl) (fun _ _ _ h => h) (Or.inl ⟨by rfl, by (intro w' hSw; go_simp; try with_reducible rfl)⟩) rfl (by assumption) ?_; simp only [lset]
    refine take_s (i := 9) rfl (by kernel_rfl) (by kernel_rfl) (by kernel_rfl) (fun _ _ _ h => h) (Or.inl ⟨by rfl, by (intro w' hSw; go_simp; try with_reducible rfl)⟩) rfl (by assumption) ?_; simp only [lset]
    refine call_s (i := 10) (by kernel_rfl) rfl rfl (by rfl) (fun K hK => ?_)
    go_simp
    have hHeld3 : Mc (w2.alloc (.cells zO 70)) m x ∧ (w2.alloc (.cells zO 70)).heap[w.heap.size]? = some (.cells #[.int .i64 5, .bool false, .float .f64 0, .string ⟨#[]⟩, .int .i64 i] 57 (0, 0)) := ⟨hHeld.1.on (below_a1 w2 _), ((below_a1 w2 _).block _ (Array.getElem?_eq_some_iff.1 hHeld.2).1).trans hHeld.2⟩
    have hHeld4 : Mc (w2.alloc (.cells (celO y (.slice (some ⟨q, 0, none⟩) 0 0) (.slice none 0 0)) 70)) m x ∧ (w2.alloc (.cells (celO y (.slice (some ⟨q, 0, none⟩) 0 0) (.slice none 0 0)) 70)).heap[w.heap.size]? = some (.cells #[.int .i64 5, .bool false, .float .f64 0, .string ⟨#[]⟩, .int .i64 i] 57 (0, 0)) := ⟨hHeld.1.on (below_a1 w2 _), ((below_a1 w2 _).block _ (Array.getElem?_eq_some_iff.1 hHeld.2).1).trans hHeld.2⟩
    refine hK.out _ (w2.alloc (.cells zO 70)) hHeld3 ?_; clear hK K hHeld; simp only [lset]
    refine step_n (i := 11) (by kernel_rfl) rfl rfl (by rfl) (fun K hK => ?_)
    refine wp_store_row 70 _ _ rfl w2.heap.size _ rfl rfl 70 _ (new1 w2 _ _) (by kernel_rfl) rfl (by kernel_rfl) ?_
    have e3 : (w2.alloc (.cells zO 70)).setRow w2.heap.size (celO y (.slice (some ⟨q, 0, none⟩) 0 0) (.slice none 0 0)) = w2.alloc (.cells (celO y (.slice (some ⟨q, 0, none⟩) 0 0) (.slice none 0 0)) 70) := World.setRow_alloc_new w2 _ _ _
    rw [e3]
    refine hK.out undef _ hHeld4 ?_; clear hK K hHeld3 e3
    have hHeld := hHeld4
    refine take_s (i := 12) rfl (by kernel_rfl) (by kernel_rfl) (by kernel_rfl) (fun _ _ _ h => h) (Or.inl ⟨by rfl, by (intro w' hSw; go_simp; try with_reducible rfl)⟩) rfl (by assumption) ?_; simp only [lset]
    refine wpAnyH_done (by kernel_rfl) ?_ _
    clear hHeld hHeld4
    obtain ⟨W4, hW4⟩ : ∃ W4, w2.alloc (.cells (celO y (.slice (some ⟨q, 0, none⟩) 0 0) (.slice none 0 0)) 70) = W4 := ⟨_, rfl⟩
    have k4 : W4.heap[w2.heap.size]? = some (.cells (celO y (.slice (some ⟨q, 0, none⟩) 0 0) (.slice none 0 0)) 70 (0, 0)) := by rw [← hW4]; exact new1 w2 _ _
    have R4 := Lib.hid (show W4.heap[w.heap.size + 1]? = some (.cells zO 70 (0, 0)) by rw [← hW4]; exact ((below_a1 w2 _).block _ (Array.getElem?_eq_some_iff.1 R2.out).1).trans R2.out)
    have B4 := Lib.hid (show Below w.heap.size w W4 by rw [← hW4]; exact B2.out.trans ((below_a1 w2 _).mono B2.out.size))
    have HG := Lib.hid (show w.heap.size + 1 < w2.heap.size from (Array.getElem?_eq_some_iff.1 R2.out).1)
    obtain ⟨g, hg⟩ : ∃ g, w2.heap.size = g := ⟨_, rfl⟩
    rw [hg] at k4 HG
    rw [hW4, hg]
    have K4 := Lib.hid k4
    clear k4 hW4 hg R2 B2
    go_upto_region 4 with fail
    refine wp_region_held_drew (S := fun W => W.heap[g]? = some (.cells (celO y (.slice (some ⟨q, 0, none⟩) 0 0) (.slice none 0 0)) 70 (0, 0))) (by kernel_rfl) K4.out (fun hHeld => ?_)
    refine take_s (v := .agg (celO y (.slice (some ⟨q, 0, none⟩) 0 0) (.slice none 0 0))) (i := 0) rfl (by kernel_rfl) (by kernel_rfl) (by kernel_rfl) (fun _ _ _ h => h) (Or.inl ⟨by rfl, by (intro w' hSw; exact ldRow_run (run_loadVar_row w' g 70 70 (celO y (.slice (some ⟨q, 0, none⟩) 0 0) (.slice none 0 0)) (0, 0) _ hSw Tryz.underlying70 rfl (by kernel_rfl)) rfl rfl)⟩) rfl (by assumption) ?_; simp only [lset]
    refine take_s (i := 1) rfl (by kernel_rfl) (by kernel_rfl) (by kernel_rfl) (fun _ _ _ h => h) (Or.inl ⟨by rfl, by (intro w' hSw; go_simp; try with_reducible rfl)⟩) rfl (by assumption) ?_; simp only [lset]
    refine take_s (v := .bool true) (i := 2) rfl (by kernel_rfl) (by kernel_rfl) (by kernel_rfl) (fun _ _ _ h => h) (Or.inl ⟨by rfl, by (intro w' hSw; go_simp; try with_reducible rfl)⟩) rfl (by assumption) ?_; simp only [lset]
    refine take_s (i := 3) rfl (by kernel_rfl) (by kernel_rfl) (by kernel_rfl) (fun _ _ _ h => h) (Or.inl ⟨by rfl, by (intro w' hSw; go_simp; try with_reducible rfl)⟩) rfl (by assumption) ?_; simp only [lset]
    refine take_s (i := 4) rfl (by kernel_rfl) (by kernel_rfl) (by kernel_rfl) (fun _ _ _ h => h) (Or.inl ⟨by rfl, by (intro w' hSw; go_simp; try with_reducible rfl)⟩) rfl (by assumption) ?_; simp only [lset]
    refine take_s (v := .int .i64 2) (i := 5) rfl (by kernel_rfl) (by kernel_rfl) (by kernel_rfl) (fun _ _ _ h => h) (Or.inl ⟨by rfl, by (intro w' hSw; have c := (cell_of_row w' g 0 _ _ _ hSw).trans (show (celO y (.slice (some ⟨q, 0, none⟩) 0 0) (.slice none 0 0))[0]? = some (.int .i64 2) from by rw [← hc]; rfl); go_simp)⟩) rfl (by assumption) ?_; simp only [lset]
    refine take_s (v := .bool true) (i := 6) rfl (by kernel_rfl) (by kernel_rfl) (by kernel_rfl) (fun _ _ _ h => h) (Or.inl ⟨by rfl, by (intro w' hSw; go_simp; try with_reducible rfl)⟩) rfl (by assumption) ?_; simp only [lset]
    refine take_s (v := .bool true) (i := 7) rfl (by kernel_rfl) (by kernel_rfl) (by kernel_rfl) (fun _ _ _ h => h) (Or.inl ⟨by rfl, by (intro w' hSw; go_simp; try with_reducible rfl)⟩) rfl (by assumption) ?_; simp only [lset]
    refine step_n (i := 8) (by kernel_rfl) rfl rfl (by rfl) (fun K hK => ?_)
    refine wp_store_row 70 _ _ rfl (w.heap.size + 1) _ rfl rfl 70 _ (show W4.drew.heap[w.heap.size + 1]? = _ from R4.out) (by kernel_rfl) rfl (by kernel_rfl) ?_
    have hHeld5 : (W4.drew.setRow (w.heap.size + 1) (celO y (.slice (some ⟨q, 0, none⟩) 0 0) (.slice none 0 0))).heap[g]? = some (.cells (celO y (.slice (some ⟨q, 0, none⟩) 0 0) (.slice none 0 0)) 70 (0, 0)) := (setRow_other _ _ _ _ (by have := HG.out; omega)).trans K4.out
    refine hK.out undef _ hHeld5 ?_; clear hK K hHeld
    have hHeld := hHeld5
    refine take_s (i := 9) rfl (by kernel_rfl) (by kernel_rfl) (by kernel_rfl) (fun _ _ _ h => h) (Or.inl ⟨by rfl, by (intro w' hSw; go_simp; try with_reducible rfl)⟩) rfl (by assumption) ?_; simp only [lset]
    refine wpAnyH_done (by kernel_rfl) ?_ _
    clear hHeld hHeld5 K4
    go_wp2_with fail
    exact cR2 rfl rfl (run_loadVar_row _ (w.heap.size + 1) 70 70 (celO y (.slice (some ⟨q, 0, none⟩) 0 0) (.slice none 0 0)) (0, 0) _ (setRow_heap _ _ _ _ _ _ (show W4.drew.heap[w.heap.size + 1]? = _ from R4.out)) Tryz.underlying70 rfl (by kernel_rfl)) rfl ⟨⟨q, rfl⟩, below_setRowK B4.out.drew (Nat.le_succ _) _⟩
  · skip
    go_simp
    have hN := (Array.getElem?_eq_some_iff.1 K2.out).1
    have hHeld1 : Mc (W1.drew.alloc (.cells zO 70)) m x ∧ (W1.drew.alloc (.cells zO 70)).heap[w.heap.size]? = some (.cells #[.int .i64 5, .bool false, .float .f64 0, .string ⟨#[]⟩, .int .i64 i] 57 (0, 0)) := ⟨Mc.on (show Mc W1.drew m x from H1.out) (below_a1 W1.drew _), ((below_a1 W1.drew _).block _ (show w.heap.size < W1.heap.size by omega)).trans K1.out⟩
    refine hK.out _ (W1.drew.alloc (.cells zO 70)) hHeld1 ?_; clear hK K hHeld; simp only [lset]
    obtain ⟨Wz, hWz⟩ : ∃ Wz, W1.drew.alloc (.cells zO 70) = Wz := ⟨_, rfl⟩
    have z1 : Wz.heap[W1.heap.size]? = some (.cells zO 70 (0, 0)) := by rw [← hWz]; exact new1 W1.drew _ _
    have R1 : Wz.heap[w.heap.size + 1]? = some (.cells zO 70 (0, 0)) := by rw [← hWz]; exact ((below_a1 W1.drew _).block _ (show w.heap.size + 1 < W1.heap.size from hN)).trans K2.out
    have Bz : Below w.heap.size w Wz := by rw [← hWz]; exact B1.out.drew.trans ((below_a1 W1.drew _).mono (show w.heap.size ≤ W1.heap.size from B1.out.size))
    have C1 := Lib.hid (C2.out Wz (by rw [← hWz]; exact below_a1 W1.drew _))
    rw [hWz] at hHeld1 ⊢
    have hHeld := hHeld1
    obtain ⟨g, hg⟩ : ∃ g, W1.heap.size = g := ⟨_, rfl⟩
    rw [hg] at z1 hN
    rw [hg]
    clear hHeld1 hWz C2 H1 K1 K2 B1 hg
    refine call_s (i := 6) (by kernel_rfl) rfl rfl (by rfl) (fun K hK => ?_)
    go_simp
    with_reducible refine C1.out.mono ?_
    rintro e w2 ⟨⟨q, rfl⟩, b2⟩
    have hHeld2 : Mc w2 m x ∧ w2.heap[w.heap.size]? = some (.cells #[.int .i64 5, .bool false, .float .f64 0, .string ⟨#[]⟩, .int .i64 i] 57 (0, 0)) := ⟨hHeld.1.on b2, (b2.block _ (Array.getElem?_eq_some_iff.1 hHeld.2).1).trans hHeld.2⟩
    have R2 := Lib.hid ((b2.block _ (Array.getElem?_eq_some_iff.1 R1).1).trans R1)
    have z2 := (b2.block _ (Array.getElem?_eq_some_iff.1 z1).1).trans z1
    have B2 := Lib.hid (Bz.trans (b2.mono Bz.size))
    have HG := Lib.hid hN
    refine hK.out _ _ hHeld2 ?_; clear hK K hHeld b2 C1 R1 z1 Bz hN; simp only [lset]
    have hHeld := hHeld2
    refine take_s (i := 7) rfl (by kernel_rfl) (by kernel_rfl) (by kernel_rfl) (fun _ _ _ h => h) (Or.inl ⟨by rfl, by (intro w' hSw; go_simp; try with_reducible rfl)⟩) rfl (by assumption) ?_; simp only [lset]
    refine take_s (i := 8) rfl (by kernel_rfl) (by kernel_rfl) (by kernel_rfl) (fun _ _ _ h => h) (Or.inl ⟨by rfl, by (intro w' hSw; go_simp; try with_reducible rfl)⟩) rfl (by assumption) ?_; simp only [lset]
    refine take_s (i := 9) rfl (by kernel_rfl) (by kernel_rfl) (by kernel_rfl) (fun _ _ _ h => h) (Or.inl ⟨by rfl, by (intro w' hSw; go_simp; try with_reducible rfl)⟩) rfl (by assumption) ?_; simp only [lset]
    refine step_n (i := 11) (by kernel_rfl) rfl rfl (by rfl) (fun K hK => ?_)
    refine wp_store_row 70 _ _ rfl g _ rfl rfl 70 _ z2 (by kernel_rfl) rfl (by kernel_rfl) ?_
    have hHeld4 : Mc (w2.setRow g (celO y (.slice (some ⟨q, 0, none⟩) 0 0) (.slice none 0 0))) m x ∧ (w2.setRow g (celO y (.slice (some ⟨q, 0, none⟩) 0 0) (.slice none 0 0))).heap[w.heap.size]? = some (.cells #[.int .i64 5, .bool false, .float .f64 0, .string ⟨#[]⟩, .int .i64 i] 57 (0, 0)) := ⟨(setRow_other _ _ _ _ (fun e => by rw [e] at hHeld2; have h := hHeld2.1; rw [show w2.heap[g]? = _ from h] at z2; cases z2)).trans hHeld2.1, (setRow_other _ _ _ _ (by have := HG.out; omega)).trans hHeld2.2⟩
    refine hK.out undef _ hHeld4 ?_; clear hK K hHeld
    have hHeld := hHeld4
    refine take_s (i := 12) rfl (by kernel_rfl) (by kernel_rfl) (by kernel_rfl) (fun _ _ _ h => h) (Or.inl ⟨by rfl, by (intro w' hSw; go_simp; try with_reducible rfl)⟩) rfl (by assumption) ?_; simp only [lset]
    refine wpAnyH_done (by kernel_rfl) ?_ _
    clear hHeld hHeld4 hHeld2
    obtain ⟨W4, hW4⟩ : ∃ W4, w2.setRow g (celO y (.slice (some ⟨q, 0, none⟩) 0 0) (.slice none 0 0)) = W4 := ⟨_, rfl⟩
    have K4 := Lib.hid (show W4.heap[g]? = some (.cells (celO y (.slice (some ⟨q, 0, none⟩) 0 0) (.slice none 0 0)) 70 (0, 0)) by rw [← hW4]; exact setRow_heap _ _ _ _ _ _ z2)
    have R4 := Lib.hid (show W4.heap[w.heap.size + 1]? = some (.cells zO 70 (0, 0)) by rw [← hW4]; exact (setRow_other _ _ _ _ (by have := HG.out; omega)).trans R2.out)
    have B4 := Lib.hid (show Below w.heap.size w W4 by rw [← hW4]; exact below_setRowK B2.out (by have := HG.out; omega) _)
    rw [hW4]
    clear hW4 R2 B2 z2
    go_upto_region 4 with fail
    refine wp_region_held_drew (S := fun W => W.heap[g]? = some (.cells (celO y (.slice (some ⟨q, 0, none⟩) 0 0) (.slice none 0 0)) 70 (0, 0))) (by kernel_rfl) K4.out (fun hHeld => ?_)
    refine take_s (v := .agg (celO y (.slice (some ⟨q, 0, none⟩) 0 0) (.slice none 0 0))) (i := 0) rfl (by kernel_rfl) (by kernel_rfl) (by kernel_rfl) (fun _ _ _ h => h) (Or.inl ⟨by rfl, by (intro w' hSw; exact ldRow_run (run_loadVar_row w' g 70 70 (celO y (.slice (some ⟨q, 0, none⟩) 0 0) (.slice none 0 0)) (0, 0) _ hSw Tryz.underlying70 rfl (by kernel_rfl)) rfl rfl)⟩) rfl (by assumption) ?_; simp only [lset]
    refine take_s (i := 1) rfl (by kernel_rfl) (by kernel_rfl) (by kernel_rfl) (fun _ _ _ h => h) (Or.inl ⟨by rfl, by (intro w' hSw; go_simp; try with_reducible rfl)⟩) rfl (by assumption) ?_; simp only [lset]
    refine take_s (v := .bool true) (i := 2) rfl (by kernel_rfl) (by kernel_rfl) (by kernel_rfl) (fun _ _ _ h => h) (Or.inl ⟨by rfl, by (intro w' hSw; go_simp; try with_reducible rfl)⟩) rfl (by assumption) ?_; simp only [lset]
    refine take_s (i := 3) rfl (by kernel_rfl) (by kernel_rfl) (by kernel_rfl) (fun _ _ _ h => h) (Or.inl ⟨by rfl, by (intro w' hSw; go_simp; try with_reducible rfl)⟩) rfl (by assumption) ?_; simp only [lset]
    refine take_s (i := 4) rfl (by kernel_rfl) (by kernel_rfl) (by kernel_rfl) (fun _ _ _ h => h) (Or.inl ⟨by rfl, by (intro w' hSw; go_simp; try with_reducible rfl)⟩) rfl (by assumption) ?_; simp only [lset]
    refine take_s (v := .int .i64 2) (i := 5) rfl (by kernel_rfl) (by kernel_rfl) (by kernel_rfl) (fun _ _ _ h => h) (Or.inl ⟨by rfl, by (intro w' hSw; have c := (cell_of_row w' g 0 _ _ _ hSw).trans (show (celO y (.slice (some ⟨q, 0, none⟩) 0 0) (.slice none 0 0))[0]? = some (.int .i64 2) from by rw [← hc]; rfl); go_simp)⟩) rfl (by assumption) ?_; simp only [lset]
    refine take_s (v := .bool true) (i := 6) rfl (by kernel_rfl) (by kernel_rfl) (by kernel_rfl) (fun _ _ _ h => h) (Or.inl ⟨by rfl, by (intro w' hSw; go_simp; try with_reducible rfl)⟩) rfl (by assumption) ?_; simp only [lset]
    refine take_s (v := .bool true) (i := 7) rfl (by kernel_rfl) (by kernel_rfl) (by kernel_rfl) (fun _ _ _ h => h) (Or.inl ⟨by rfl, by (intro w' hSw; go_simp; try with_reducible rfl)⟩) rfl (by assumption) ?_; simp only [lset]
    refine step_n (i := 8) (by kernel_rfl) rfl rfl (by rfl) (fun K hK => ?_)
    refine wp_store_row 70 _ _ rfl (w.heap.size + 1) _ rfl rfl 70 _ (show W4.drew.heap[w.heap.size + 1]? = _ from R4.out) (by kernel_rfl) rfl (by kernel_rfl) ?_
    have hHeld5 : (W4.drew.setRow (w.heap.size + 1) (celO y (.slice (some ⟨q, 0, none⟩) 0 0) (.slice none 0 0))).heap[g]? = some (.cells (celO y (.slice (some ⟨q, 0, none⟩) 0 0) (.slice none 0 0)) 70 (0, 0)) := (setRow_other _ _ _ _ (by have := HG.out; omega)).trans K4.out
    refine hK.out undef _ hHeld5 ?_; clear hK K hHeld
    have hHeld := hHeld5
    refine take_s (i := 9) rfl (by kernel_rfl) (by kernel_rfl) (by kernel_rfl) (fun _ _ _ h => h) (Or.inl ⟨by rfl, by (intro w' hSw; go_simp; try with_reducible rfl)⟩) rfl (by assumption) ?_; simp only [lset]
    refine wpAnyH_done (by kernel_rfl) ?_ _
    clear hHeld hHeld5 K4
    go_wp2_with fail
    exact cR2 rfl rfl (run_loadVar_row _ (w.heap.size + 1) 70 70 (celO y (.slice (some ⟨q, 0, none⟩) 0 0) (.slice none 0 0)) (0, 0) _ (setRow_heap _ _ _ _ _ _ (show W4.drew.heap[w.heap.size + 1]? = _ from R4.out)) Tryz.underlying70 rfl (by kernel_rfl)) rfl ⟨⟨q, rfl⟩, below_setRowK B4.out.drew (Nat.le_succ _) _⟩
end Go.Proofs.YtmlgjijjkikkhaaGreatDoor
