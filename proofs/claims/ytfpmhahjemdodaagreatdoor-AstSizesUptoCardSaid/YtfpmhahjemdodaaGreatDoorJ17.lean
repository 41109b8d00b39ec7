/-
  The program's holds.
-/
import Derived.Test.YtfpmhahjemdodaaGreatDoorMqak
namespace Go.Proofs.YtfpmhahjemdodaaGreatDoor
open Go.RowKit Go.Shelf
attribute [local go_sem] stFl hmf f64bits_run
set_option maxRecDepth 100000 in
set_option maxHeartbeats 2000000 in
theorem holds_0 (d : Nd) (A : Option Addr) (k c : Nat) (v0 v1 v2 v3 v4 : Value) (W : World)
    (C0 : Hid (∀ W', Below W.heap.size W W' → Calls Tryz.prog 35 #[v0, nodA d A k c, .bool (d.op.toList.isEmpty)] W' fun e w' => e = .returned (.bool false) ∧ Below W'.heap.size W' w')) :
    Calls Tryz.prog 25 #[.agg #[v0, v1, v2, v3, v4], nodA d A k c] W fun e w' => e = .returned (.bool false) ∧ Below W.heap.size W w' := by
  obtain ⟨W1, hW1⟩ : ∃ W1, boxN (W.alloc (.cells #[v0, v1, v2, v3, v4] 63)) d A k c = W1 := ⟨_, rfl⟩
  have bW : Below W.heap.size W W1 := by rw [← hW1]; exact (b1 _).alloc (by simp) _
  have s0 : W1.cell? ⟨W.heap.size, 0, none⟩ = some v0 := by rw [← hW1]; simp
  have s1 : W1.cell? ⟨W.heap.size, 1, none⟩ = some v1 := by rw [← hW1]; simp
  have s2 : W1.cell? ⟨W.heap.size, 2, none⟩ = some v2 := by rw [← hW1]; simp
  have s3 : W1.cell? ⟨W.heap.size, 3, none⟩ = some v3 := by rw [← hW1]; simp
  have s4 : W1.cell? ⟨W.heap.size, 4, none⟩ = some v4 := by rw [← hW1]; simp
  have m0 : W1.cell? ⟨W.heap.size + 1, 0, none⟩ = some (.int .i64 d.k) := by rw [← hW1]; simp
  have m1 : W1.cell? ⟨W.heap.size + 1, 1, none⟩ = some (.string d.op) := by rw [← hW1]; simp
  have m2 : W1.cell? ⟨W.heap.size + 1, 2, none⟩ = some (.string d.st) := by rw [← hW1]; simp
  have m3 : W1.cell? ⟨W.heap.size + 1, 3, none⟩ = some (.float .f64 d.nm) := by rw [← hW1]; simp
  have m4 : W1.cell? ⟨W.heap.size + 1, 4, none⟩ = some (.bool d.fl) := by rw [← hW1]; simp
  have m5 : W1.cell? ⟨W.heap.size + 1, 5, none⟩ = some (.slice A k c) := by rw [← hW1]; simp
  have m6 : W1.cell? ⟨W.heap.size + 1, 6, none⟩ = some (.int .i64 d.ps) := by rw [← hW1]; simp
  have C0 : Hid (∀ W', Below W1.heap.size W1 W' → _) := Lib.hid fun W' hb => C0.out W' (bW.trans (hb.mono bW.size))
  unfold nodA at C0 ⊢
  go_enter Tryz.func25, Tryz.ntmps25
  go_upto_region 1 with fail
  have HW := Lib.hid bW
  clear hW1 bW
  refine wp_region_held_drew (S := fun wx => Below W1.heap.size W1 wx) (by kernel_rfl) ((Below.refl _ _).drew) (fun hHeld => ?_)
  refine take_s (i := 0) rfl (by kernel_rfl) (by kernel_rfl) (by kernel_rfl) (fun _ _ _ h => h) (Or.inl ⟨by rfl, by (intro w hS; go_simp; try with_reducible rfl)⟩) rfl (by assumption) ?_; simp only [lset]
  refine take_s (i := 1) rfl (by kernel_rfl) (by kernel_rfl) (by kernel_rfl) (fun _ _ _ h => h) (Or.inl ⟨by rfl, by (intro w hS; have q0 := cell_kept s0 hS; go_simp; try with_reducible rfl)⟩) rfl (by assumption) ?_; simp only [lset]
  refine take_s (i := 2) rfl (by kernel_rfl) (by kernel_rfl) (by kernel_rfl) (fun _ _ _ h => h) (Or.inl ⟨by rfl, by (intro w hS; have q0 := cell_kept m0 hS; have q1 := cell_kept m1 hS; have q2 := cell_kept m2 hS; have q3 := cell_kept m3 hS; have q4 := cell_kept m4 hS; have q5 := cell_kept m5 hS; have q6 := cell_kept m6 hS; go_simp; try with_reducible rfl)⟩) rfl (by assumption) ?_; simp only [lset]
  refine take_s (i := 3) rfl (by kernel_rfl) (by kernel_rfl) (by kernel_rfl) (fun _ _ _ h => h) (Or.inl ⟨by rfl, by (intro w hS; go_simp; try with_reducible rfl)⟩) rfl (by assumption) ?_; simp only [lset]
  refine take_s (i := 4) rfl (by kernel_rfl) (by kernel_rfl) (by kernel_rfl) (fun _ _ _ h => h) (Or.inl ⟨by rfl, by (intro w hS; have q0 := cell_kept m1 hS; go_simp; try with_reducible rfl)⟩) rfl (by assumption) ?_; simp only [lset]
  refine take_s (i := 5) rfl (by kernel_rfl) (by kernel_rfl) (by kernel_rfl) (fun _ _ _ h => h) (Or.inl ⟨by rfl, by (intro w hS; go_simp; try with_reducible rfl)⟩) rfl (by assumption) ?_; simp only [lset]
  refine call_s (i := 6) (by kernel_rfl) rfl rfl (by rfl) (fun K hK => ?_)
  go_simp
  refine (C0.out _ hHeld).mono ?_
  rintro e w2 ⟨rfl, b2⟩
  have hHe2 := hHeld.trans (b2.mono hHeld.size)
  clear hHeld b2
  refine hK.out _ _ hHe2 ?_; clear hK K; simp only [lset]
  have hHeld := hHe2; clear hHe2
  refine take_s (i := 7) rfl (by kernel_rfl) (by kernel_rfl) (by kernel_rfl) (fun _ _ _ h => h) (Or.inl ⟨by rfl, by (intro w hS; go_simp; try with_reducible rfl)⟩) rfl (by assumption) ?_; simp only [lset]
  refine take_s (i := 8) rfl (by kernel_rfl) (by kernel_rfl) (by kernel_rfl) (fun _ _ _ h => h) (Or.inr ⟨by rfl, rfl⟩) rfl (by assumption) ?_; simp only [lset]
  refine take_s (i := 9) rfl (by kernel_rfl) (by kernel_rfl) (by kernel_rfl) (fun _ _ _ h => h) (Or.inr ⟨by rfl, rfl⟩) rfl (by assumption) ?_; simp only [lset]
  refine take_s (i := 10) rfl (by kernel_rfl) (by kernel_rfl) (by kernel_rfl) (fun _ _ _ h => h) (Or.inr ⟨by rfl, rfl⟩) rfl (by assumption) ?_; simp only [lset]
  refine take_s (i := 11) rfl (by kernel_rfl) (by kernel_rfl) (by kernel_rfl) (fun _ _ _ h => h) (Or.inr ⟨by rfl, rfl⟩) rfl (by assumption) ?_; simp only [lset]
  refine take_s (i := 12) rfl (by kernel_rfl) (by kernel_rfl) (by kernel_rfl) (fun _ _ _ h => h) (Or.inr ⟨by rfl, rfl⟩) rfl (by assumption) ?_; simp only [lset]
  refine take_s (i := 13) rfl (by kernel_rfl) (by kernel_rfl) (by kernel_rfl) (fun _ _ _ h => h) (Or.inr ⟨by rfl, rfl⟩) rfl (by assumption) ?_; simp only [lset]
  refine take_s (i := 14) rfl (by kernel_rfl) (by kernel_rfl) (by kernel_rfl) (fun _ _ _ h => h) (Or.inr ⟨by rfl, rfl⟩) rfl (by assumption) ?_; simp only [lset]
  refine take_s (i := 15) rfl (by kernel_rfl) (by kernel_rfl) (by kernel_rfl) (fun _ _ _ h => h) (Or.inl ⟨by rfl, by (intro w hS; go_simp; try with_reducible rfl)⟩) rfl (by assumption) ?_; simp only [lset]
  refine take_s (i := 16) rfl (by kernel_rfl) (by kernel_rfl) (by kernel_rfl) (fun _ _ _ h => h) (Or.inl ⟨by rfl, by (intro w hS; go_simp; try with_reducible rfl)⟩) rfl (by assumption) ?_; simp only [lset]
  refine take_s (i := 17) rfl (by kernel_rfl) (by kernel_rfl) (by kernel_rfl) (fun _ _ _ h => h) (Or.inr ⟨by rfl, rfl⟩) rfl (by assumption) ?_; simp only [lset]
  refine take_s (i := 18) rfl (by kernel_rfl) (by kernel_rfl) (by kernel_rfl) (fun _ _ _ h => h) (Or.inr ⟨by rfl, rfl⟩) rfl (by assumption) ?_; simp only [lset]
  refine take_s (i := 19) rfl (by kernel_rfl) (by kernel_rfl) (by kernel_rfl) (fun _ _ _ h => h) (Or.inr ⟨by rfl, rfl⟩) rfl (by assumption) ?_; simp only [lset]
  refine take_s (i := 20) rfl (by kernel_rfl) (by kernel_rfl) (by kernel_rfl) (fun _ _ _ h => h) (Or.inr ⟨by rfl, rfl⟩) rfl (by assumption) ?_; simp only [lset]
  refine take_s (i := 21) rfl (by kernel_rfl) (by kernel_rfl) (by kernel_rfl) (fun _ _ _ h => h) (Or.inr ⟨by rfl, rfl⟩) rfl (by assumption) ?_; simp only [lset]
  refine take_s (i := 22) rfl (by kernel_rfl) (by kernel_rfl) (by kernel_rfl) (fun _ _ _ h => h) (Or.inr ⟨by rfl, rfl⟩) rfl (by assumption) ?_; simp only [lset]
  refine take_s (i := 23) rfl (by kernel_rfl) (by kernel_rfl) (by kernel_rfl) (fun _ _ _ h => h) (Or.inr ⟨by rfl, rfl⟩) rfl (by assumption) ?_; simp only [lset]
  refine take_s (i := 24) rfl (by kernel_rfl) (by kernel_rfl) (by kernel_rfl) (fun _ _ _ h => h) (Or.inr ⟨by rfl, rfl⟩) rfl (by assumption) ?_; simp only [lset]
  refine take_s (i := 25) rfl (by kernel_rfl) (by kernel_rfl) (by kernel_rfl) (fun _ _ _ h => h) (Or.inl ⟨by rfl, by (intro w hS; go_simp; try with_reducible rfl)⟩) rfl (by assumption) ?_; simp only [lset]
  refine take_s (i := 26) rfl (by kernel_rfl) (by kernel_rfl) (by kernel_rfl) (fun _ _ _ h => h) (Or.inl ⟨by rfl, by (intro w hS; go_simp; try with_reducible rfl)⟩) rfl (by assumption) ?_; simp only [lset]
  refine take_s (i := 27) rfl (by kernel_rfl) (by kernel_rfl) (by kernel_rfl) (fun _ _ _ h => h) (Or.inr ⟨by rfl, rfl⟩) rfl (by assumption) ?_; simp only [lset]
  refine take_s (i := 28) rfl (by kernel_rfl) (by kernel_rfl) (by kernel_rfl) (fun _ _ _ h => h) (Or.inr ⟨by rfl, rfl⟩) rfl (by assumption) ?_; simp only [lset]
  refine take_s (i := 29) rfl (by kernel_rfl) (by kernel_rfl) (by kernel_rfl) (fun _ _ _ h => h) (Or.inr ⟨by rfl, rfl⟩) rfl (by assumption) ?_; simp only [lset]
  refine take_s (i := 30) rfl (by kernel_rfl) (by kernel_rfl) (by kernel_rfl) (fun _ _ _ h => h) (Or.inr ⟨by rfl, rfl⟩) rfl (by assumption) ?_; simp only [lset]
  refine take_s (i := 31) rfl (by kernel_rfl) (by kernel_rfl) (by kernel_rfl) (fun _ _ _ h => h) (Or.inr ⟨by rfl, rfl⟩) rfl (by assumption) ?_; simp only [lset]
  refine take_s (i := 32) rfl (by kernel_rfl) (by kernel_rfl) (by kernel_rfl) (fun _ _ _ h => h) (Or.inr ⟨by rfl, rfl⟩) rfl (by assumption) ?_; simp only [lset]
  refine take_s (i := 33) rfl (by kernel_rfl) (by kernel_rfl) (by kernel_rfl) (fun _ _ _ h => h) (Or.inr ⟨by rfl, rfl⟩) rfl (by assumption) ?_; simp only [lset]
  refine take_s (i := 34) rfl (by kernel_rfl) (by kernel_rfl) (by kernel_rfl) (fun _ _ _ h => h) (Or.inl ⟨by rfl, by (intro w hS; go_simp; try with_reducible rfl)⟩) rfl (by assumption) ?_; simp only [lset]
  refine take_s (i := 35) rfl (by kernel_rfl) (by kernel_rfl) (by kernel_rfl) (fun _ _ _ h => h) (Or.inl ⟨by rfl, by (intro w hS; go_simp; try with_reducible rfl)⟩) rfl (by assumption) ?_; simp only [lset]
  refine take_s (i := 36) rfl (by kernel_rfl) (by kernel_rfl) (by kernel_rfl) (fun _ _ _ h => h) (Or.inr ⟨by rfl, rfl⟩) rfl (by assumption) ?_; simp only [lset]
  refine take_s (i := 37) rfl (by kernel_rfl) (by kernel_rfl) (by kernel_rfl) (fun _ _ _ h => h) (Or.inr ⟨by rfl, rfl⟩) rfl (by assumption) ?_; simp only [lset]
  refine take_s (i := 38) rfl (by kernel_rfl) (by kernel_rfl) (by kernel_rfl) (fun _ _ _ h => h) (Or.inr ⟨by rfl, rfl⟩) rfl (by assumption) ?_; simp only [lset]
  refine take_s (i := 39) rfl (by kernel_rfl) (by kernel_rfl) (by kernel_rfl) (fun _ _ _ h => h) (Or.inr ⟨by rfl, rfl⟩) rfl (by assumption) ?_; simp only [lset]
  refine take_s (i := 40) rfl (by kernel_rfl) (by kernel_rfl) (by kernel_rfl) (fun _ _ _ h => h) (Or.inr ⟨by rfl, rfl⟩) rfl (by assumption) ?_; simp only [lset]
  refine take_s (i := 41) rfl (by kernel_rfl) (by kernel_rfl) (by kernel_rfl) (fun _ _ _ h => h) (Or.inr ⟨by rfl, rfl⟩) rfl (by assumption) ?_; simp only [lset]
  refine take_s (i := 42) rfl (by kernel_rfl) (by kernel_rfl) (by kernel_rfl) (fun _ _ _ h => h) (Or.inr ⟨by rfl, rfl⟩) rfl (by assumption) ?_; simp only [lset]
  refine take_s (i := 43) rfl (by kernel_rfl) (by kernel_rfl) (by kernel_rfl) (fun _ _ _ h => h) (Or.inr ⟨by rfl, rfl⟩) rfl (by assumption) ?_; simp only [lset]
  refine take_s (i := 44) rfl (by kernel_rfl) (by kernel_rfl) (by kernel_rfl) (fun _ _ _ h => h) (Or.inl ⟨by rfl, by (intro w hS; go_simp; try with_reducible rfl)⟩) rfl (by assumption) ?_; simp only [lset]
  refine take_s (i := 45) rfl (by kernel_rfl) (by kernel_rfl) (by kernel_rfl) (fun _ _ _ h => h) (Or.inl ⟨by rfl, by (intro w hS; go_simp; try with_reducible rfl)⟩) rfl (by assumption) ?_; simp only [lset]
  refine wpAnyH_done (by kernel_rfl) ?_ _
  have HS := Lib.hid hHeld
  clear hHeld
  go_wp2
  go_ret
  exact ⟨rfl, HW.out.trans (HS.out.mono HW.out.size)⟩
set_option maxRecDepth 100000 in
set_option maxHeartbeats 2000000 in
theorem holds_1 (d : Nd) (A : Option Addr) (k c : Nat) (v0 v1 v2 v3 v4 : Value) (W : World)
    (C0 : Hid (∀ W', Below W.heap.size W W' → Calls Tryz.prog 35 #[v0, nodA d A k c, .bool (d.op.toList.isEmpty)] W' fun e w' => e = .returned (.bool true) ∧ Below W'.heap.size W' w'))
    (C1 : Hid (∀ W', Below W.heap.size W W' → Calls Tryz.prog 35 #[v1, nodA d A k c, .bool (d.st.toList.isEmpty)] W' fun e w' => e = .returned (.bool false) ∧ Below W'.heap.size W' w')) :
    Calls Tryz.prog 25 #[.agg #[v0, v1, v2, v3, v4], nodA d A k c] W fun e w' => e = .returned (.bool false) ∧ Below W.heap.size W w' := by
  obtain ⟨W1, hW1⟩ : ∃ W1, boxN (W.alloc (.cells #[v0, v1, v2, v3, v4] 63)) d A k c = W1 := ⟨_, rfl⟩
  have bW : Below W.heap.size W W1 := by rw [← hW1]; exact (b1 _).alloc (by simp) _
  have s0 : W1.cell? ⟨W.heap.size, 0, none⟩ = some v0 := by rw [← hW1]; simp
  have s1 : W1.cell? ⟨W.heap.size, 1, none⟩ = some v1 := by rw [← hW1]; simp
  have s2 : W1.cell? ⟨W.heap.size, 2, none⟩ = some v2 := by rw [← hW1]; simp
  have s3 : W1.cell? ⟨W.heap.size, 3, none⟩ = some v3 := by rw [← hW1]; simp
  have s4 : W1.cell? ⟨W.heap.size, 4, none⟩ = some v4 := by rw [← hW1]; simp
  have m0 : W1.cell? ⟨W.heap.size + 1, 0, none⟩ = some (.int .i64 d.k) := by rw [← hW1]; simp
  have m1 : W1.cell? ⟨W.heap.size + 1, 1, none⟩ = some (.string d.op) := by rw [← hW1]; simp
  have m2 : W1.cell? ⟨W.heap.size + 1, 2, none⟩ = some (.string d.st) := by rw [← hW1]; simp
  have m3 : W1.cell? ⟨W.heap.size + 1, 3, none⟩ = some (.float .f64 d.nm) := by rw [← hW1]; simp
  have m4 : W1.cell? ⟨W.heap.size + 1, 4, none⟩ = some (.bool d.fl) := by rw [← hW1]; simp
  have m5 : W1.cell? ⟨W.heap.size + 1, 5, none⟩ = some (.slice A k c) := by rw [← hW1]; simp
  have m6 : W1.cell? ⟨W.heap.size + 1, 6, none⟩ = some (.int .i64 d.ps) := by rw [← hW1]; simp
  have C0 : Hid (∀ W', Below W1.heap.size W1 W' → _) := Lib.hid fun W' hb => C0.out W' (bW.trans (hb.mono bW.size))
  have C1 : Hid (∀ W', Below W1.heap.size W1 W' → _) := Lib.hid fun W' hb => C1.out W' (bW.trans (hb.mono bW.size))
  unfold nodA at C0 C1 ⊢
  go_enter Tryz.func25, Tryz.ntmps25
  go_upto_region 1 with fail
  have HW := Lib.hid bW
  clear hW1 bW
  refine wp_region_held_drew (S := fun wx => Below W1.heap.size W1 wx) (by kernel_rfl) ((Below.refl _ _).drew) (fun hHeld => ?_)
  refine take_s (i := 0) rfl (by kernel_rfl) (by kernel_rfl) (by kernel_rfl) (fun _ _ _ h => h) (Or.inl ⟨by rfl, by (intro w hS; go_simp; try with_reducible rfl)⟩) rfl (by assumption) ?_; simp only [lset]
  refine take_s (i := 1) rfl (by kernel_rfl) (by kernel_rfl) (by kernel_rfl) (fun _ _ _ h => h) (Or.inl ⟨by rfl, by (intro w hS; have q0 := cell_kept s0 hS; go_simp; try with_reducible rfl)⟩) rfl (by assumption) ?_; simp only [lset]
  refine take_s (i := 2) rfl (by kernel_rfl) (by kernel_rfl) (by kernel_rfl) (fun _ _ _ h => h) (Or.inl ⟨by rfl, by (intro w hS; have q0 := cell_kept m0 hS; have q1 := cell_kept m1 hS; have q2 := cell_kept m2 hS; have q3 := cell_kept m3 hS; have q4 := cell_kept m4 hS; have q5 := cell_kept m5 hS; have q6 := cell_kept m6 hS; go_simp; try with_reducible rfl)⟩) rfl (by assumption) ?_; simp only [lset]
  refine take_s (i := 3) rfl (by kernel_rfl) (by kernel_rfl) (by kernel_rfl) (fun _ _ _ h => h) (Or.inl ⟨by rfl, by (intro w hS; go_simp; try with_reducible rfl)⟩) rfl (by assumption) ?_; simp only [lset]
  refine take_s (i := 4) rfl (by kernel_rfl) (by kernel_rfl) (by kernel_rfl) (fun _ _ _ h => h) (Or.inl ⟨by rfl, by (intro w hS; have q0 := cell_kept m1 hS; go_simp; try with_reducible rfl)⟩) rfl (by assumption) ?_; simp only [lset]
  refine take_s (i := 5) rfl (by kernel_rfl) (by kernel_rfl) (by kernel_rfl) (fun _ _ _ h => h) (Or.inl ⟨by rfl, by (intro w hS; go_simp; try with_reducible rfl)⟩) rfl (by assumption) ?_; simp only [lset]
  refine call_s (i := 6) (by kernel_rfl) rfl rfl (by rfl) (fun K hK => ?_)
  go_simp
  refine (C0.out _ hHeld).mono ?_
  rintro e w2 ⟨rfl, b2⟩
  have hHe2 := hHeld.trans (b2.mono hHeld.size)
  clear hHeld b2
  refine hK.out _ _ hHe2 ?_; clear hK K; simp only [lset]
  have hHeld := hHe2; clear hHe2
  refine take_s (i := 7) rfl (by kernel_rfl) (by kernel_rfl) (by kernel_rfl) (fun _ _ _ h => h) (Or.inl ⟨by rfl, by (intro w hS; go_simp; try with_reducible rfl)⟩) rfl (by assumption) ?_; simp only [lset]
  refine take_s (i := 8) rfl (by kernel_rfl) (by kernel_rfl) (by kernel_rfl) (fun _ _ _ h => h) (Or.inl ⟨by rfl, by (intro w hS; go_simp; try with_reducible rfl)⟩) rfl (by assumption) ?_; simp only [lset]
  refine take_s (i := 9) rfl (by kernel_rfl) (by kernel_rfl) (by kernel_rfl) (fun _ _ _ h => h) (Or.inl ⟨by rfl, by (intro w hS; have q0 := cell_kept s1 hS; go_simp; try with_reducible rfl)⟩) rfl (by assumption) ?_; simp only [lset]
  refine take_s (i := 10) rfl (by kernel_rfl) (by kernel_rfl) (by kernel_rfl) (fun _ _ _ h => h) (Or.inl ⟨by rfl, by (intro w hS; have q0 := cell_kept m0 hS; have q1 := cell_kept m1 hS; have q2 := cell_kept m2 hS; have q3 := cell_kept m3 hS; have q4 := cell_kept m4 hS; have q5 := cell_kept m5 hS; have q6 := cell_kept m6 hS; go_simp; try with_reducible rfl)⟩) rfl (by assumption) ?_; simp only [lset]
  refine take_s (i := 11) rfl (by kernel_rfl) (by kernel_rfl) (by kernel_rfl) (fun _ _ _ h => h) (Or.inl ⟨by rfl, by (intro w hS; go_simp; try with_reducible rfl)⟩) rfl (by assumption) ?_; simp only [lset]
  refine take_s (i := 12) rfl (by kernel_rfl) (by kernel_rfl) (by kernel_rfl) (fun _ _ _ h => h) (Or.inl ⟨by rfl, by (intro w hS; have q0 := cell_kept m2 hS; go_simp; try with_reducible rfl)⟩) rfl (by assumption) ?_; simp only [lset]
  refine take_s (i := 13) rfl (by kernel_rfl) (by kernel_rfl) (by kernel_rfl) (fun _ _ _ h => h) (Or.inl ⟨by rfl, by (intro w hS; go_simp; try with_reducible rfl)⟩) rfl (by assumption) ?_; simp only [lset]
  refine call_s (i := 14) (by kernel_rfl) rfl rfl (by rfl) (fun K hK => ?_)
  go_simp
  refine (C1.out _ hHeld).mono ?_
  rintro e w2 ⟨rfl, b2⟩
  have hHe2 := hHeld.trans (b2.mono hHeld.size)
  clear hHeld b2
  refine hK.out _ _ hHe2 ?_; clear hK K; simp only [lset]
  have hHeld := hHe2; clear hHe2
  refine take_s (i := 15) rfl (by kernel_rfl) (by kernel_rfl) (by kernel_rfl) (fun _ _ _ h => h) (Or.inl ⟨by rfl, by (intro w hS; go_simp; try with_reducible rfl)⟩) rfl (by assumption) ?_; simp only [lset]
  refine take_s (i := 16) rfl (by kernel_rfl) (by kernel_rfl) (by kernel_rfl) (fun _ _ _ h => h) (Or.inl ⟨by rfl, by (intro w hS; go_simp; try with_reducible rfl)⟩) rfl (by assumption) ?_; simp only [lset]
  refine take_s (i := 17) rfl (by kernel_rfl) (by kernel_rfl) (by kernel_rfl) (fun _ _ _ h => h) (Or.inr ⟨by rfl, rfl⟩) rfl (by assumption) ?_; simp only [lset]
  refine take_s (i := 18) rfl (by kernel_rfl) (by kernel_rfl) (by kernel_rfl) (fun _ _ _ h => h) (Or.inr ⟨by rfl, rfl⟩) rfl (by assumption) ?_; simp only [lset]
  refine take_s (i := 19) rfl (by kernel_rfl) (by kernel_rfl) (by kernel_rfl) (fun _ _ _ h => h) (Or.inr ⟨by rfl, rfl⟩) rfl (by assumption) ?_; simp only [lset]
  refine take_s (i := 20) rfl (by kernel_rfl) (by kernel_rfl) (by kernel_rfl) (fun _ _ _ h => h) (Or.inr ⟨by rfl, rfl⟩) rfl (by assumption) ?_; simp only [lset]
  refine take_s (i := 21) rfl (by kernel_rfl) (by kernel_rfl) (by kernel_rfl) (fun _ _ _ h => h) (Or.inr ⟨by rfl, rfl⟩) rfl (by assumption) ?_; simp only [lset]
  refine take_s (i := 22) rfl (by kernel_rfl) (by kernel_rfl) (by kernel_rfl) (fun _ _ _ h => h) (Or.inr ⟨by rfl, rfl⟩) rfl (by assumption) ?_; simp only [lset]
  refine take_s (i := 23) rfl (by kernel_rfl) (by kernel_rfl) (by kernel_rfl) (fun _ _ _ h => h) (Or.inr ⟨by rfl, rfl⟩) rfl (by assumption) ?_; simp only [lset]
  refine take_s (i := 24) rfl (by kernel_rfl) (by kernel_rfl) (by kernel_rfl) (fun _ _ _ h => h) (Or.inr ⟨by rfl, rfl⟩) rfl (by assumption) ?_; simp only [lset]
  refine take_s (i := 25) rfl (by kernel_rfl) (by kernel_rfl) (by kernel_rfl) (fun _ _ _ h => h) (Or.inl ⟨by rfl, by (intro w hS; go_simp; try with_reducible rfl)⟩) rfl (by assumption) ?_; simp only [lset]
  refine take_s (i := 26) rfl (by kernel_rfl) (by kernel_rfl) (by kernel_rfl) (fun _ _ _ h => h) (Or.inl ⟨by rfl, by (intro w hS; go_simp; try with_reducible rfl)⟩) rfl (by assumption) ?_; simp only [lset]
  refine take_s (i := 27) rfl (by kernel_rfl) (by kernel_rfl) (by kernel_rfl) (fun _ _ _ h => h) (Or.inr ⟨by rfl, rfl⟩) rfl (by assumption) ?_; simp only [lset]
  refine take_s (i := 28) rfl (by kernel_rfl) (by kernel_rfl) (by kernel_rfl) (fun _ _ _ h => h) (Or.inr ⟨by rfl, rfl⟩) rfl (by assumption) ?_; simp only [lset]
  refine take_s (i := 29) rfl (by kernel_rfl) (by kernel_rfl) (by kernel_rfl) (fun _ _ _ h => h) (Or.inr ⟨by rfl, rfl⟩) rfl (by assumption) ?_; simp only [lset]
  refine take_s (i := 30) rfl (by kernel_rfl) (by kernel_rfl) (by kernel_rfl) (fun _ _ _ h => h) (Or.inr ⟨by rfl, rfl⟩) rfl (by assumption) ?_; simp only [lset]
  refine take_s (i := 31) rfl (by kernel_rfl) (by kernel_rfl) (by kernel_rfl) (fun _ _ _ h => h) (Or.inr ⟨by rfl, rfl⟩) rfl (by assumption) ?_; simp only [lset]
  refine take_s (i := 32) rfl (by kernel_rfl) (by kernel_rfl) (by kernel_rfl) (fun _ _ _ h => h) (Or.inr ⟨by rfl, rfl⟩) rfl (by assumption) ?_; simp only [lset]
  refine take_s (i := 33) rfl (by kernel_rfl) (by kernel_rfl) (by kernel_rfl) (fun _ _ _ h => h) (Or.inr ⟨by rfl, rfl⟩) rfl (by assumption) ?_; simp only [lset]
  refine take_s (i := 34) rfl (by kernel_rfl) (by kernel_rfl) (by kernel_rfl) (fun _ _ _ h => h) (Or.inl ⟨by rfl, by (intro w hS; go_simp; try with_reducible rfl)⟩) rfl (by assumption) ?_; simp only [lset]
  refine take_s (i := 35) rfl (by kernel_rfl) (by kernel_rfl) (by kernel_rfl) (fun _ _ _ h => h) (Or.inl ⟨by rfl, by (intro w hS; go_simp; try with_reducible rfl)⟩) rfl (by assumption) ?_; simp only [lset]
  refine take_s (i := 36) rfl (by kernel_rfl) (by kernel_rfl) (by kernel_rfl) (fun _ _ _ h => h) (Or.inr ⟨by rfl, rfl⟩) rfl (by assumption) ?_; simp only [lset]
  refine take_s (i := 37) rfl (by kernel_rfl) (by kernel_rfl) (by kernel_rfl) (fun _ _ _ h => h) (Or.inr ⟨by rfl, rfl⟩) rfl (by assumption) ?_; simp only [lset]
  refine take_s (i := 38) rfl (by kernel_rfl) (by kernel_rfl) (by kernel_rfl) (fun _ _ _ h => h) (Or.inr ⟨by rfl, rfl⟩) rfl (by assumption) ?_; simp only [lset]
  refine take_s (i := 39) rfl (by kernel_rfl) (by kernel_rfl) (by kernel_rfl) (fun _ _ _ h => h) (Or.inr ⟨by rfl, rfl⟩) rfl (by assumption) ?_; simp only [lset]
  refine take_s (i := 40) rfl (by kernel_rfl) (by kernel_rfl) (by kernel_rfl) (fun _ _ _ h => h) (Or.inr ⟨by rfl, rfl⟩) rfl (by assumption) ?_; simp only [lset]
  refine take_s (i := 41) rfl (by kernel_rfl) (by kernel_rfl) (by kernel_rfl) (fun _ _ _ h => h) (Or.inr ⟨by rfl, rfl⟩) rfl (by assumption) ?_; simp only [lset]
  refine take_s (i := 42) rfl (by kernel_rfl) (by kernel_rfl) (by kernel_rfl) (fun _ _ _ h => h) (Or.inr ⟨by rfl, rfl⟩) rfl (by assumption) ?_; simp only [lset]
  refine take_s (i := 43) rfl (by kernel_rfl) (by kernel_rfl) (by kernel_rfl) (fun _ _ _ h => h) (Or.inr ⟨by rfl, rfl⟩) rfl (by assumption) ?_; simp only [lset]
  refine take_s (i := 44) rfl (by kernel_rfl) (by kernel_rfl) (by kernel_rfl) (fun _ _ _ h => h) (Or.inl ⟨by rfl, by (intro w hS; go_simp; try with_reducible rfl)⟩) rfl (by assumption) ?_; simp only [lset]
  refine take_s (i := 45) rfl (by kernel_rfl) (by kernel_rfl) (by kernel_rfl) (fun _ _ _ h => h) (Or.inl ⟨by rfl, by (intro w hS; go_simp; try with_reducible rfl)⟩) rfl (by assumption) ?_; simp only [lset]
  refine wpAnyH_done (by kernel_rfl) ?_ _
  have HS := Lib.hid hHeld
  clear hHeld
  go_wp2
  go_ret
  exact ⟨rfl, HW.out.trans (HS.out.mono HW.out.size)⟩
set_option maxRecDepth 100000 in
set_option maxHeartbeats 2000000 in
theorem holds_2 (d : Nd) (A : Option Addr) (k c : Nat) (v0 v1 v2 v3 v4 : Value) (W : World)
    (C0 : Hid (∀ W', Below W.heap.size W W' → Calls Tryz.prog 35 #[v0, nodA d A k c, .bool (d.op.toList.isEmpty)] W' fun e w' => e = .returned (.bool true) ∧ Below W'.heap.size W' w'))
    (C1 : Hid (∀ W', Below W.heap.size W W' → Calls Tryz.prog 35 #[v1, nodA d A k c, .bool (d.st.toList.isEmpty)] W' fun e w' => e = .returned (.bool true) ∧ Below W'.heap.size W' w'))
    (C2 : Hid (∀ W', Below W.heap.size W W' → Calls Tryz.prog 35 #[v2, nodA d A k c, .bool (((d.nm : Int) == 0))] W' fun e w' => e = .returned (.bool false) ∧ Below W'.heap.size W' w')) :
    Calls Tryz.prog 25 #[.agg #[v0, v1, v2, v3, v4], nodA d A k c] W fun e w' => e = .returned (.bool false) ∧ Below W.heap.size W w' := by
  obtain ⟨W1, hW1⟩ : ∃ W1, boxN (W.alloc (.cells #[v0, v1, v2, v3, v4] 63)) d A k c = W1 := ⟨_, rfl⟩
  have bW : Below W.heap.size W W1 := by rw [← hW1]; exact (b1 _).alloc (by simp) _
  have s0 : W1.cell? ⟨W.heap.size, 0, none⟩ = some v0 := by rw [← hW1]; simp
  have s1 : W1.cell? ⟨W.heap.size, 1, none⟩ = some v1 := by rw [← hW1]; simp
  have s2 : W1.cell? ⟨W.heap.size, 2, none⟩ = some v2 := by rw [← hW1]; simp
  have s3 : W1.cell? ⟨W.heap.size, 3, none⟩ = some v3 := by rw [← hW1]; simp
  have s4 : W1.cell? ⟨W.heap.size, 4, none⟩ = some v4 := by rw [← hW1]; simp
  have m0 : W1.cell? ⟨W.heap.size + 1, 0, none⟩ = some (.int .i64 d.k) := by rw [← hW1]; simp
  have m1 : W1.cell? ⟨W.heap.size + 1, 1, none⟩ = some (.string d.op) := by rw [← hW1]; simp
  have m2 : W1.cell? ⟨W.heap.size + 1, 2, none⟩ = some (.string d.st) := by rw [← hW1]; simp
  have m3 : W1.cell? ⟨W.heap.size + 1, 3, none⟩ = some (.float .f64 d.nm) := by rw [← hW1]; simp
  have m4 : W1.cell? ⟨W.heap.size + 1, 4, none⟩ = some (.bool d.fl) := by rw [← hW1]; simp
  have m5 : W1.cell? ⟨W.heap.size + 1, 5, none⟩ = some (.slice A k c) := by rw [← hW1]; simp
  have m6 : W1.cell? ⟨W.heap.size + 1, 6, none⟩ = some (.int .i64 d.ps) := by rw [← hW1]; simp
  have C0 : Hid (∀ W', Below W1.heap.size W1 W' → _) := Lib.hid fun W' hb => C0.out W' (bW.trans (hb.mono bW.size))
  have C1 : Hid (∀ W', Below W1.heap.size W1 W' → _) := Lib.hid fun W' hb => C1.out W' (bW.trans (hb.mono bW.size))
  have C2 : Hid (∀ W', Below W1.heap.size W1 W' → _) := Lib.hid fun W' hb => C2.out W' (bW.trans (hb.mono bW.size))
  unfold nodA at C0 C1 C2 ⊢
  go_enter Tryz.func25, Tryz.ntmps25
  go_upto_region 1 with fail
  have HW := Lib.hid bW
  clear hW1 bW
  refine wp_region_held_drew (S := fun wx => Below W1.heap.size W1 wx) (by kernel_rfl) ((Below.refl _ _).drew) (fun hHeld => ?_)
  refine take_s (i := 0) rfl (by kernel_rfl) (by kernel_rfl) (by kernel_rfl) (fun _ _ _ h => h) (Or.inl ⟨by rfl, by (intro w hS; go_simp; try with_reducible rfl)⟩) rfl (by assumption) ?_; simp only [lset]
  refine take_s (i := 1) rfl (by kernel_rfl) (by kernel_rfl) (by kernel_rfl) (fun _ _ _ h => h) (Or.inl ⟨by rfl, by (intro w hS; have q0 := cell_kept s0 hS; go_simp; try with_reducible rfl)⟩) rfl (by assumption) ?_; simp only [lset]
  refine take_s (i := 2) rfl (by kernel_rfl) (by kernel_rfl) (by kernel_rfl) (fun _ _ _ h => h) (Or.inl ⟨by rfl, by (intro w hS; have q0 := cell_kept m0 hS; have q1 := cell_kept m1 hS; have q2 := cell_kept m2 hS; have q3 := cell_kept m3 hS; have q4 := cell_kept m4 hS; have q5 := cell_kept m5 hS; have q6 := cell_kept m6 hS; go_simp; try with_reducible rfl)⟩) rfl (by assumption) ?_; simp only [lset]
  refine take_s (i := 3) rfl (by kernel_rfl) (by kernel_rfl) (by kernel_rfl) (fun _ _ _ h => h) (Or.inl ⟨by rfl, by (intro w hS; go_simp; try with_reducible rfl)⟩) rfl (by assumption) ?_; simp only [lset]
  refine take_s (i := 4) rfl (by kernel_rfl) (by kernel_rfl) (by kernel_rfl) (fun _ _ _ h => h) (Or.inl ⟨by rfl, by (intro w hS; have q0 := cell_kept m1 hS; go_simp; try with_reducible rfl)⟩) rfl (by assumption) ?_; simp only [lset]
  refine take_s (i := 5) rfl (by kernel_rfl) (by kernel_rfl) (by kernel_rfl) (fun _ _ _ h => h) (Or.inl ⟨by rfl, by (intro w hS; go_simp; try with_reducible rfl)⟩) rfl (by assumption) ?_; simp only [lset]
  refine call_s (i := 6) (by kernel_rfl) rfl rfl (by rfl) (fun K hK => ?_)
  go_simp
  refine (C0.out _ hHeld).mono ?_
  rintro e w2 ⟨rfl, b2⟩
  have hHe2 := hHeld.trans (b2.mono hHeld.size)
  clear hHeld b2
  refine hK.out _ _ hHe2 ?_; clear hK K; simp only [lset]
  have hHeld := hHe2; clear hHe2
  refine take_s (i := 7) rfl (by kernel_rfl) (by kernel_rfl) (by kernel_rfl) (fun _ _ _ h => h) (Or.inl ⟨by rfl, by (intro w hS; go_simp; try with_reducible rfl)⟩) rfl (by assumption) ?_; simp only [lset]
  refine take_s (i := 8) rfl (by kernel_rfl) (by kernel_rfl) (by kernel_rfl) (fun _ _ _ h => h) (Or.inl ⟨by rfl, by (intro w hS; go_simp; try with_reducible rfl)⟩) rfl (by assumption) ?_; simp only [lset]
  refine take_s (i := 9) rfl (by kernel_rfl) (by kernel_rfl) (by kernel_rfl) (fun _ _ _ h => h) (Or.inl ⟨by rfl, by (intro w hS; have q0 := cell_kept s1 hS; go_simp; try with_reducible rfl)⟩) rfl (by assumption) ?_; simp only [lset]
  refine take_s (i := 10) rfl (by kernel_rfl) (by kernel_rfl) (by kernel_rfl) (fun _ _ _ h => h) (Or.inl ⟨by rfl, by (intro w hS; have q0 := cell_kept m0 hS; have q1 := cell_kept m1 hS; have q2 := cell_kept m2 hS; have q3 := cell_kept m3 hS; have q4 := cell_kept m4 hS; have q5 := cell_kept m5 hS; have q6 := cell_kept m6 hS; go_simp; try with_reducible rfl)⟩) rfl (by assumption) ?_; simp only [lset]
  refine take_s (i := 11) rfl (by kernel_rfl) (by kernel_rfl) (by kernel_rfl) (fun _ _ _ h => h) (Or.inl ⟨by rfl, by (intro w hS; go_simp; try with_reducible rfl)⟩) rfl (by assumption) ?_; simp only [lset]
  refine take_s (i := 12) rfl (by kernel_rfl) (by kernel_rfl) (by kernel_rfl) (fun _ _ _ h => h) (Or.inl ⟨by rfl, by (intro w hS; have q0 := cell_kept m2 hS; go_simp; try with_reducible rfl)⟩) rfl (by assumption) ?_; simp only [lset]
  refine take_s (i := 13) rfl (by kernel_rfl) (by kernel_rfl) (by kernel_rfl) (fun _ _ _ h => h) (Or.inl ⟨by rfl, by (intro w hS; go_simp; try with_reducible rfl)⟩) rfl (by assumption) ?_; simp only [lset]
  refine call_s (i := 14) (by kernel_rfl) rfl rfl (by rfl) (fun K hK => ?_)
  go_simp
  refine (C1.out _ hHeld).mono ?_
  rintro e w2 ⟨rfl, b2⟩
  have hHe2 := hHeld.trans (b2.mono hHeld.size)
  clear hHeld b2
  refine hK.out _ _ hHe2 ?_; clear hK K; simp only [lset]
  have hHeld := hHe2; clear hHe2
  refine take_s (i := 15) rfl (by kernel_rfl) (by kernel_rfl) (by kernel_rfl) (fun _ _ _ h => h) (Or.inl ⟨by rfl, by (intro w hS; go_simp; try with_reducible rfl)⟩) rfl (by assumption) ?_; simp only [lset]
  refine take_s (i := 16) rfl (by kernel_rfl) (by kernel_rfl) (by kernel_rfl) (fun _ _ _ h => h) (Or.inl ⟨by rfl, by (intro w hS; go_simp; try with_reducible rfl)⟩) rfl (by assumption) ?_; simp only [lset]
  refine take_s (i := 17) rfl (by kernel_rfl) (by kernel_rfl) (by kernel_rfl) (fun _ _ _ h => h) (Or.inl ⟨by rfl, by (intro w hS; go_simp; try with_reducible rfl)⟩) rfl (by assumption) ?_; simp only [lset]
  refine take_s (i := 18) rfl (by kernel_rfl) (by kernel_rfl) (by kernel_rfl) (fun _ _ _ h => h) (Or.inl ⟨by rfl, by (intro w hS; have q0 := cell_kept s2 hS; go_simp; try with_reducible rfl)⟩) rfl (by assumption) ?_; simp only [lset]
  refine take_s (i := 19) rfl (by kernel_rfl) (by kernel_rfl) (by kernel_rfl) (fun _ _ _ h => h) (Or.inl ⟨by rfl, by (intro w hS; have q0 := cell_kept m0 hS; have q1 := cell_kept m1 hS; have q2 := cell_kept m2 hS; have q3 := cell_kept m3 hS; have q4 := cell_kept m4 hS; have q5 := cell_kept m5 hS; have q6 := cell_kept m6 hS; go_simp; try with_reducible rfl)⟩) rfl (by assumption) ?_; simp only [lset]
  refine take_s (i := 20) rfl (by kernel_rfl) (by kernel_rfl) (by kernel_rfl) (fun _ _ _ h => h) (Or.inl ⟨by rfl, by (intro w hS; go_simp; try with_reducible rfl)⟩) rfl (by assumption) ?_; simp only [lset]
  refine take_s (i := 21) rfl (by kernel_rfl) (by kernel_rfl) (by kernel_rfl) (fun _ _ _ h => h) (Or.inl ⟨by rfl, by (intro w hS; have q0 := cell_kept m3 hS; go_simp; try with_reducible rfl)⟩) rfl (by assumption) ?_; simp only [lset]
  refine take_s (i := 22) rfl (by kernel_rfl) (by kernel_rfl) (by kernel_rfl) (fun _ _ _ h => h) (Or.inl ⟨by rfl, by (intro w hS; go_simp; try with_reducible rfl)⟩) rfl (by assumption) ?_; simp only [lset]
  refine take_s (i := 23) rfl (by kernel_rfl) (by kernel_rfl) (by kernel_rfl) (fun _ _ _ h => h) (Or.inl ⟨by rfl, by (intro w hS; go_simp; try with_reducible rfl)⟩) rfl (by assumption) ?_; simp only [lset]
  refine call_s (i := 24) (by kernel_rfl) rfl rfl (by rfl) (fun K hK => ?_)
  go_simp
  refine (C2.out _ hHeld).mono ?_
  rintro e w2 ⟨rfl, b2⟩
  have hHe2 := hHeld.trans (b2.mono hHeld.size)
  clear hHeld b2
  refine hK.out _ _ hHe2 ?_; clear hK K; simp only [lset]
  have hHeld := hHe2; clear hHe2
  refine take_s (i := 25) rfl (by kernel_rfl) (by kernel_rfl) (by kernel_rfl) (fun _ _ _ h => h) (Or.inl ⟨by rfl, by (intro w hS; go_simp; try with_reducible rfl)⟩) rfl (by assumption) ?_; simp only [lset]
  refine take_s (i := 26) rfl (by kernel_rfl) (by kernel_rfl) (by kernel_rfl) (fun _ _ _ h => h) (Or.inl ⟨by rfl, by (intro w hS; go_simp; try with_reducible rfl)⟩) rfl (by assumption) ?_; simp only [lset]
  refine take_s (i := 27) rfl (by kernel_rfl) (by kernel_rfl) (by kernel_rfl) (fun _ _ _ h => h) (Or.inr ⟨by rfl, rfl⟩) rfl (by assumption) ?_; simp only [lset]
  refine take_s (i := 28) rfl (by kernel_rfl) (by kernel_rfl) (by kernel_rfl) (fun _ _ _ h => h) (Or.inr ⟨by rfl, rfl⟩) rfl (by assumption) ?_; simp only [lset]
  refine take_s (i := 29) rfl (by kernel_rfl) (by kernel_rfl) (by kernel_rfl) (fun _ _ _ h => h) (Or.inr ⟨by rfl, rfl⟩) rfl (by assumption) ?_; simp only [lset]
  refine take_s (i := 30) rfl (by kernel_rfl) (by kernel_rfl) (by kernel_rfl) (fun _ _ _ h => h) (Or.inr ⟨by rfl, rfl⟩) rfl (by assumption) ?_; simp only [lset]
  refine take_s (i := 31) rfl (by kernel_rfl) (by kernel_rfl) (by kernel_rfl) (fun _ _ _ h => h) (Or.inr ⟨by rfl, rfl⟩) rfl (by assumption) ?_; simp only [lset]
  refine take_s (i := 32) rfl (by kernel_rfl) (by kernel_rfl) (by kernel_rfl) (fun _ _ _ h => h) (Or.inr ⟨by rfl, rfl⟩) rfl (by assumption) ?_; simp only [lset]
  refine take_s (i := 33) rfl (by kernel_rfl) (by kernel_rfl) (by kernel_rfl) (fun _ _ _ h => h) (Or.inr ⟨by rfl, rfl⟩) rfl (by assumption) ?_; simp only [lset]
  refine take_s (i := 34) rfl (by kernel_rfl) (by kernel_rfl) (by kernel_rfl) (fun _ _ _ h => h) (Or.inl ⟨by rfl, by (intro w hS; go_simp; try with_reducible rfl)⟩) rfl (by assumption) ?_; simp only [lset]
  refine take_s (i := 35) rfl (by kernel_rfl) (by kernel_rfl) (by kernel_rfl) (fun _ _ _ h => h) (Or.inl ⟨by rfl, by (intro w hS; go_simp; try with_reducible rfl)⟩) rfl (by assumption) ?_; simp only [lset]
  refine take_s (i := 36) rfl (by kernel_rfl) (by kernel_rfl) (by kernel_rfl) (fun _ _ _ h => h) (Or.inr ⟨by rfl, rfl⟩) rfl (by assumption) ?_; simp only [lset]
  refine take_s (i := 37) rfl (by kernel_rfl) (by kernel_rfl) (by kernel_rfl) (fun _ _ _ h => h) (Or.inr ⟨by rfl, rfl⟩) rfl (by assumption) ?_; simp only [lset]
  refine take_s (i := 38) rfl (by kernel_rfl) (by kernel_rfl) (by kernel_rfl) (fun _ _ _ h => h) (Or.inr ⟨by rfl, rfl⟩) rfl (by assumption) ?_; simp only [lset]
  refine take_s (i := 39) rfl (by kernel_rfl) (by kernel_rfl) (by kernel_rfl) (fun _ _ _ h => h) (Or.inr ⟨by rfl, rfl⟩) rfl (by assumption) ?_; simp only [lset]
  refine take_s (i := 40) rfl (by kernel_rfl) (by kernel_rfl) (by kernel_rfl) (fun _ _ _ h => h) (Or.inr ⟨by rfl, rfl⟩) rfl (by assumption) ?_; simp only [lset]
  refine take_s (i := 41) rfl (by kernel_rfl) (by kernel_rfl) (by kernel_rfl) (fun _ _ _ h => h) (Or.inr ⟨by rfl, rfl⟩) rfl (by assumption) ?_; simp only [lset]
  refine take_s (i := 42) rfl (by kernel_rfl) (by kernel_rfl) (by kernel_rfl) (fun _ _ _ h => h) (Or.inr ⟨by rfl, rfl⟩) rfl (by assumption) ?_; simp only [lset]
  refine take_s (i := 43) rfl (by kernel_rfl) (by kernel_rfl) (by kernel_rfl) (fun _ _ _ h => h) (Or.inr ⟨by rfl, rfl⟩) rfl (by assumption) ?_; simp only [lset]
  refine take_s (i := 44) rfl (by kernel_rfl) (by kernel_rfl) (by kernel_rfl) (fun _ _ _ h => h) (Or.inl ⟨by rfl, by (intro w hS; go_simp; try with_reducible rfl)⟩) rfl (by assumption) ?_; simp only [lset]
  refine take_s (i := 45) rfl (by kernel_rfl) (by kernel_rfl) (by kernel_rfl) (fun _ _ _ h => h) (Or.inl ⟨by rfl, by (intro w hS; go_simp; try with_reducible rfl)⟩) rfl (by assumption) ?_; simp only [lset]
  refine wpAnyH_done (by kernel_rfl) ?_ _
  have HS := Lib.hid hHeld
  clear hHeld
  go_wp2
  go_ret
  exact ⟨rfl, HW.out.trans (HS.out.mono HW.out.size)⟩
set_option maxRecDepth 100000 in
set_option maxHeartbeats 2000000 in
theorem holds_3 (d : Nd) (A : Option Addr) (k c : Nat) (v0 v1 v2 v3 v4 : Value) (W : World)
    (C0 : Hid (∀ W', Below W.heap.size W W' → Calls Tryz.prog 35 #[v0, nodA d A k c, .bool (d.op.toList.isEmpty)] W' fun e w' => e = .returned (.bool true) ∧ Below W'.heap.size W' w'))
    (C1 : Hid (∀ W', Below W.heap.size W W' → Calls Tryz.prog 35 #[v1, nodA d A k c, .bool (d.st.toList.isEmpty)] W' fun e w' => e = .returned (.bool true) ∧ Below W'.heap.size W' w'))
    (C2 : Hid (∀ W', Below W.heap.size W W' → Calls Tryz.prog 35 #[v2, nodA d A k c, .bool (((d.nm : Int) == 0))] W' fun e w' => e = .returned (.bool true) ∧ Below W'.heap.size W' w'))
    (C3 : Hid (∀ W', Below W.heap.size W W' → Calls Tryz.prog 35 #[v3, nodA d A k c, .bool (!d.fl)] W' fun e w' => e = .returned (.bool false) ∧ Below W'.heap.size W' w')) :
    Calls Tryz.prog 25 #[.agg #[v0, v1, v2, v3, v4], nodA d A k c] W fun e w' => e = .returned (.bool false) ∧ Below W.heap.size W w' := by
  obtain ⟨W1, hW1⟩ : ∃ W1, boxN (W.alloc (.cells #[v0, v1, v2, v3, v4] 63)) d A k c = W1 := ⟨_, rfl⟩
  have bW : Below W.heap.size W W1 := by rw [← hW1]; exact (b1 _).alloc (by simp) _
  have s0 : W1.cell? ⟨W.heap.size, 0, none⟩ = some v0 := by rw [← hW1]; simp
  have s1 : W1.cell? ⟨W.heap.size, 1, none⟩ = some v1 := by rw [← hW1]; simp
  have s2 : W1.cell? ⟨W.heap.size, 2, none⟩ = some v2 := by rw [← hW1]; simp
  have s3 : W1.cell? ⟨W.heap.size, 3, none⟩ = some v3 := by rw [← hW1]; simp
  have s4 : W1.cell? ⟨W.heap.size, 4, none⟩ = some v4 := by rw [← hW1]; simp
  have m0 : W1.cell? ⟨W.heap.size + 1, 0, none⟩ = some (.int .i64 d.k) := by rw [← hW1]; simp
  have m1 : W1.cell? ⟨W.heap.size + 1, 1, none⟩ = some (.string d.op) := by rw [← hW1]; simp
  have m2 : W1.cell? ⟨W.heap.size + 1, 2, none⟩ = some (.string d.st) := by rw [← hW1]; simp
  have m3 : W1.cell? ⟨W.heap.size + 1, 3, none⟩ = some (.float .f64 d.nm) := by rw [← hW1]; simp
  have m4 : W1.cell? ⟨W.heap.size + 1, 4, none⟩ = some (.bool d.fl) := by rw [← hW1]; simp
  have m5 : W1.cell? ⟨W.heap.size + 1, 5, none⟩ = some (.slice A k c) := by rw [← hW1]; simp
  have m6 : W1.cell? ⟨W.heap.size + 1, 6, none⟩ = some (.int .i64 d.ps) := by rw [← hW1]; simp
  have C0 : Hid (∀ W', Below W1.heap.size W1 W' → _) := Lib.hid fun W' hb => C0.out W' (bW.trans (hb.mono bW.size))
  have C1 : Hid (∀ W', Below W1.heap.size W1 W' → _) := Lib.hid fun W' hb => C1.out W' (bW.trans (hb.mono bW.size))
  have C2 : Hid (∀ W', Below W1.heap.size W1 W' → _) := Lib.hid fun W' hb => C2.out W' (bW.trans (hb.mono bW.size))
  have C3 : Hid (∀ W', Below W1.heap.size W1 W' → _) := Lib.hid fun W' hb => C3.out W' (bW.trans (hb.mono bW.size))
  unfold nodA at C0 C1 C2 C3 ⊢
  go_enter Tryz.func25, Tryz.ntmps25
  go_upto_region 1 with fail
  have HW := Lib.hid bW
  clear hW1 bW
  refine wp_region_held_drew (S := fun wx => Below W1.heap.size W1 wx) (by kernel_rfl) ((Below.refl _ _).drew) (fun hHeld => ?_)
  refine take_s (i := 0) rfl (by kernel_rfl) (by kernel_rfl) (by kernel_rfl) (fun _ _ _ h => h) (Or.inl ⟨by rfl, by (intro w hS; go_simp; try with_reducible rfl)⟩) rfl (by assumption) ?_; simp only [lset]
  refine take_s (i := 1) rfl (by kernel_rfl) (by kernel_rfl) (by kernel_rfl) (fun _ _ _ h => h) (Or.inl ⟨by rfl, by (intro w hS; have q0 := cell_kept s0 hS; go_simp; try with_reducible rfl)⟩) rfl (by assumption) ?_; simp only [lset]
  refine take_s (i := 2) rfl (by kernel_rfl) (by kernel_rfl) (by kernel_rfl) (fun _ _ _ h => h) (Or.inl ⟨by rfl, by (intro w hS; have q0 := cell_kept m0 hS; have q1 := cell_kept m1 hS; have q2 := cell_kept m2 hS; have q3 := cell_kept m3 hS; have q4 := cell_kept m4 hS; have q5 := cell_kept m5 hS; have q6 := cell_kept m6 hS; go_simp; try with_reducible rfl)⟩) rfl (by assumption) ?_; simp only [lset]
  refine take_s (i := 3) rfl (by kernel_rfl) (by kernel_rfl) (by kernel_rfl) (fun _ _ _ h => h) (Or.inl ⟨by rfl, by (intro w hS; go_simp; try with_reducible rfl)⟩) rfl (by assumption) ?_; simp only [lset]
  refine take_s (i := 4) rfl (by kernel_rfl) (by kernel_rfl) (by kernel_rfl) (fun _ _ _ h => h) (Or.inl ⟨by rfl, by (intro w hS; have q0 := cell_kept m1 hS; go_simp; try with_reducible rfl)⟩) rfl (by assumption) ?_; simp only [lset]
  refine take_s (i := 5) rfl (by kernel_rfl) (by kernel_rfl) (by kernel_rfl) (fun _ _ _ h => h) (Or.inl ⟨by rfl, by (intro w hS; go_simp; try with_reducible rfl)⟩) rfl (by assumption) ?_; simp only [lset]
  refine call_s (i := 6) (by kernel_rfl) rfl rfl (by rfl) (fun K hK => ?_)
  go_simp
  refine (C0.out _ hHeld).mono ?_
  rintro e w2 ⟨rfl, b2⟩
  have hHe2 := hHeld.trans (b2.mono hHeld.size)
  clear hHeld b2
  refine hK.out _ _ hHe2 ?_; clear hK K; simp only [lset]
  have hHeld := hHe2; clear hHe2
  refine take_s (i := 7) rfl (by kernel_rfl) (by kernel_rfl) (by kernel_rfl) (fun _ _ _ h => h) (Or.inl ⟨by rfl, by (intro w hS; go_simp; try with_reducible rfl)⟩) rfl (by assumption) ?_; simp only [lset]
  refine take_s (i := 8) rfl (by kernel_rfl) (by kernel_rfl) (by kernel_rfl) (fun _ _ _ h => h) (Or.inl ⟨by rfl, by (intro w hS; go_simp; try with_reducible rfl)⟩) rfl (by assumption) ?_; simp only [lset]
  refine take_s (i := 9) rfl (by kernel_rfl) (by kernel_rfl) (by kernel_rfl) (fun _ _ _ h => h) (Or.inl ⟨by rfl, by (intro w hS; have q0 := cell_kept s1 hS; go_simp; try with_reducible rfl)⟩) rfl (by assumption) ?_; simp only [lset]
  refine take_s (i := 10) rfl (by kernel_rfl) (by kernel_rfl) (by kernel_rfl) (fun _ _ _ h => h) (Or.inl ⟨by rfl, by (intro w hS; have q0 := cell_kept m0 hS; have q1 := cell_kept m1 hS; have q2 := cell_kept m2 hS; have q3 := cell_kept m3 hS; have q4 := cell_kept m4 hS; have q5 := cell_kept m5 hS; have q6 := cell_kept m6 hS; go_simp; try with_reducible rfl)⟩) rfl (by assumption) ?_; simp only [lset]
  refine take_s (i := 11) rfl (by kernel_rfl) (by kernel_rfl) (by kernel_rfl) (fun _ _ _ h => h) (Or.inl ⟨by rfl, by (intro w hS; go_simp; try with_reducible rfl)⟩) rfl (by assumption) ?_; simp only [lset]
  refine take_s (i := 12) rfl (by kernel_rfl) (by kernel_rfl) (by kernel_rfl) (fun _ _ _ h => h) (Or.inl ⟨by rfl, by (intro w hS; have q0 := cell_kept m2 hS; go_simp; try with_reducible rfl)⟩) rfl (by assumption) ?_; simp only [lset]
  refine take_s (i := 13) rfl (by kernel_rfl) (by kernel_rfl) (by kernel_rfl) (fun _ _ _ h => h) (Or.inl ⟨by rfl, by (intro w hS; go_simp; try with_reducible rfl)⟩) rfl (by assumption) ?_; simp only [lset]
  refine call_s (i := 14) (by kernel_rfl) rfl rfl (by rfl) (fun K hK => ?_)
  go_simp
  refine (C1.out _ hHeld).mono ?_
  rintro e w2 ⟨rfl, b2⟩
  have hHe2 := hHeld.trans (b2.mono hHeld.size)
  clear hHeld b2
  refine hK.out _ _ hHe2 ?_; clear hK K; simp only [lset]
  have hHeld := hHe2; clear hHe2
  refine take_s (i := 15) rfl (by kernel_rfl) (by kernel_rfl) (by kernel_rfl) (fun _ _ _ h => h) (Or.inl ⟨by rfl, by (intro w hS; go_simp; try with_reducible rfl)⟩) rfl (by assumption) ?_; simp only [lset]
  refine take_s (i := 16) rfl (by kernel_rfl) (by kernel_rfl) (by kernel_rfl) (fun _ _ _ h => h) (Or.inl ⟨by rfl, by (intro w hS; go_simp; try with_reducible rfl)⟩) rfl (by assumption) ?_; simp only [lset]
  refine take_s (i := 17) rfl (by kernel_rfl) (by kernel_rfl) (by kernel_rfl) (fun _ _ _ h => h) (Or.inl ⟨by rfl, by (intro w hS; go_simp; try with_reducible rfl)⟩) rfl (by assumption) ?_; simp only [lset]
  refine take_s (i := 18) rfl (by kernel_rfl) (by kernel_rfl) (by kernel_rfl) (fun _ _ _ h => h) (Or.inl ⟨by rfl, by (intro w hS; have q0 := cell_kept s2 hS; go_simp; try with_reducible rfl)⟩) rfl (by assumption) ?_; simp only [lset]
  refine take_s (i := 19) rfl (by kernel_rfl) (by kernel_rfl) (by kernel_rfl) (fun _ _ _ h => h) (Or.inl ⟨by rfl, by (intro w hS; have q0 := cell_kept m0 hS; have q1 := cell_kept m1 hS; have q2 := cell_kept m2 hS; have q3 := cell_kept m3 hS; have q4 := cell_kept m4 hS; have q5 := cell_kept m5 hS; have q6 := cell_kept m6 hS; go_simp; try with_reducible rfl)⟩) rfl (by assumption) ?_; simp only [lset]
  refine take_s (i := 20) rfl (by kernel_rfl) (by kernel_rfl) (by kernel_rfl) (fun _ _ _ h => h) (Or.inl ⟨by rfl, by (intro w hS; go_simp; try with_reducible rfl)⟩) rfl (by assumption) ?_; simp only [lset]
  refine take_s (i := 21) rfl (by kernel_rfl) (by kernel_rfl) (by kernel_rfl) (fun _ _ _ h => h) (Or.inl ⟨by rfl, by (intro w hS; have q0 := cell_kept m3 hS; go_simp; try with_reducible rfl)⟩) rfl (by assumption) ?_; simp only [lset]
  refine take_s (i := 22) rfl (by kernel_rfl) (by kernel_rfl) (by kernel_rfl) (fun _ _ _ h => h) (Or.inl ⟨by rfl, by (intro w hS; go_simp; try with_reducible rfl)⟩) rfl (by assumption) ?_; simp only [lset]
  refine take_s (i := 23) rfl (by kernel_rfl) (by kernel_rfl) (by kernel_rfl) (fun _ _ _ h => h) (Or.inl ⟨by rfl, by (intro w hS; go_simp; try with_reducible rfl)⟩) rfl (by assumption) ?_; simp only [lset]
  refine call_s (i := 24) (by kernel_rfl) rfl rfl (by rfl) (fun K hK => ?_)
  go_simp
  refine (C2.out _ hHeld).mono ?_
  rintro e w2 ⟨rfl, b2⟩
  have hHe2 := hHeld.trans (b2.mono hHeld.size)
  clear hHeld b2
  refine hK.out _ _ hHe2 ?_; clear hK K; simp only [lset]
  have hHeld := hHe2; clear hHe2
  refine take_s (i := 25) rfl (by kernel_rfl) (by kernel_rfl) (by kernel_rfl) (fun _ _ _ h => h) (Or.inl ⟨by rfl, by (intro w hS; go_simp; try with_reducible rfl)⟩) rfl (by assumption) ?_; simp only [lset]
  refine take_s (i := 26) rfl (by kernel_rfl) (by kernel_rfl) (by kernel_rfl) (fun _ _ _ h => h) (Or.inl ⟨by rfl, by (intro w hS; go_simp; try with_reducible rfl)⟩) rfl (by assumption) ?_; simp only [lset]
  refine take_s (i := 27) rfl (by kernel_rfl) (by kernel_rfl) (by kernel_rfl) (fun _ _ _ h => h) (Or.inl ⟨by rfl, by (intro w hS; go_simp; try with_reducible rfl)⟩) rfl (by assumption) ?_; simp only [lset]
  refine take_s (i := 28) rfl (by kernel_rfl) (by kernel_rfl) (by kernel_rfl) (fun _ _ _ h => h) (Or.inl ⟨by rfl, by (intro w hS; have q0 := cell_kept s3 hS; go_simp; try with_reducible rfl)⟩) rfl (by assumption) ?_; simp only [lset]
  refine take_s (i := 29) rfl (by kernel_rfl) (by kernel_rfl) (by kernel_rfl) (fun _ _ _ h => h) (Or.inl ⟨by rfl, by (intro w hS; have q0 := cell_kept m0 hS; have q1 := cell_kept m1 hS; have q2 := cell_kept m2 hS; have q3 := cell_kept m3 hS; have q4 := cell_kept m4 hS; have q5 := cell_kept m5 hS; have q6 := cell_kept m6 hS; go_simp; try with_reducible rfl)⟩) rfl (by assumption) ?_; simp only [lset]
  refine take_s (i := 30) rfl (by kernel_rfl) (by kernel_rfl) (by kernel_rfl) (fun _ _ _ h => h) (Or.inl ⟨by rfl, by (intro w hS; go_simp; try with_reducible rfl)⟩) rfl (by assumption) ?_; simp only [lset]
  refine take_s (i := 31) rfl (by kernel_rfl) (by kernel_rfl) (by kernel_rfl) (fun _ _ _ h => h) (Or.inl ⟨by rfl, by (intro w hS; have q0 := cell_kept m4 hS; go_simp; try with_reducible rfl)⟩) rfl (by assumption) ?_; simp only [lset]
  refine take_s (i := 32) rfl (by kernel_rfl) (by kernel_rfl) (by kernel_rfl) (fun _ _ _ h => h) (Or.inl ⟨by rfl, by (intro w hS; go_simp; try with_reducible rfl)⟩) rfl (by assumption) ?_; simp only [lset]
  refine call_s (i := 33) (by kernel_rfl) rfl rfl (by rfl) (fun K hK => ?_)
  go_simp
  refine (C3.out _ hHeld).mono ?_
  rintro e w2 ⟨rfl, b2⟩
  have hHe2 := hHeld.trans (b2.mono hHeld.size)
  clear hHeld b2
  refine hK.out _ _ hHe2 ?_; clear hK K; simp only [lset]
  have hHeld := hHe2; clear hHe2
  refine take_s (i := 34) rfl (by kernel_rfl) (by kernel_rfl) (by kernel_rfl) (fun _ _ _ h => h) (Or.inl ⟨by rfl, by (intro w hS; go_simp; try with_reducible rfl)⟩) rfl (by assumption) ?_; simp only [lset]
  refine take_s (i := 35) rfl (by kernel_rfl) (by kernel_rfl) (by kernel_rfl) (fun _ _ _ h => h) (Or.inl ⟨by rfl, by (intro w hS; go_simp; try with_reducible rfl)⟩) rfl (by assumption) ?_; simp only [lset]
  refine take_s (i := 36) rfl (by kernel_rfl) (by kernel_rfl) (by kernel_rfl) (fun _ _ _ h => h) (Or.inr ⟨by rfl, rfl⟩) rfl (by assumption) ?_; simp only [lset]
  refine take_s (i := 37) rfl (by kernel_rfl) (by kernel_rfl) (by kernel_rfl) (fun _ _ _ h => h) (Or.inr ⟨by rfl, rfl⟩) rfl (by assumption) ?_; simp only [lset]
  refine take_s (i := 38) rfl (by kernel_rfl) (by kernel_rfl) (by kernel_rfl) (fun _ _ _ h => h) (Or.inr ⟨by rfl, rfl⟩) rfl (by assumption) ?_; simp only [lset]
  refine take_s (i := 39) rfl (by kernel_rfl) (by kernel_rfl) (by kernel_rfl) (fun _ _ _ h => h) (Or.inr ⟨by rfl, rfl⟩) rfl (by assumption) ?_; simp only [lset]
  refine take_s (i := 40) rfl (by kernel_rfl) (by kernel_rfl) (by kernel_rfl) (fun _ _ _ h => h) (Or.inr ⟨by rfl, rfl⟩) rfl (by assumption) ?_; simp only [lset]
  refine take_s (i := 41) rfl (by kernel_rfl) (by kernel_rfl) (by kernel_rfl) (fun _ _ _ h => h) (Or.inr ⟨by rfl, rfl⟩) rfl (by assumption) ?_; simp only [lset]
  refine take_s (i := 42) rfl (by kernel_rfl) (by kernel_rfl) (by kernel_rfl) (fun _ _ _ h => h) (Or.inr ⟨by rfl, rfl⟩) rfl (by assumption) ?_; simp only [lset]
  refine take_s (i := 43) rfl (by kernel_rfl) (by kernel_rfl) (by kernel_rfl) (fun _ _ _ h => h) (Or.inr ⟨by rfl, rfl⟩) rfl (by assumption) ?_; simp only [lset]
  refine take_s (i := 44) rfl (by kernel_rfl) (by kernel_rfl) (by kernel_rfl) (fun _ _ _ h => h) (Or.inl ⟨by rfl, by (intro w hS; go_simp; try with_reducible rfl)⟩) rfl (by assumption) ?_; simp only [lset]
  refine take_s (i := 45) rfl (by kernel_rfl) (by kernel_rfl) (by kernel_rfl) (fun _ _ _ h => h) (Or.inl ⟨by rfl, by (intro w hS; go_simp; try with_reducible rfl)⟩) rfl (by assumption) ?_; simp only [lset]
  refine wpAnyH_done (by kernel_rfl) ?_ _
  have HS := Lib.hid hHeld
  clear hHeld
  go_wp2
  go_ret
  exact ⟨rfl, HW.out.trans (HS.out.mono HW.out.size)⟩
set_option maxRecDepth 100000 in
set_option maxHeartbeats 2000000 in
theorem holds_4 (d : Nd) (A : Option Addr) (k c : Nat) (v0 v1 v2 v3 v4 : Value) (W : World) (y : Bool)
    (C0 : Hid (∀ W', Below W.heap.size W W' → Calls Tryz.prog 35 #[v0, nodA d A k c, .bool (d.op.toList.isEmpty)] W' fun e w' => e = .returned (.bool true) ∧ Below W'.heap.size W' w'))
    (C1 : Hid (∀ W', Below W.heap.size W W' → Calls Tryz.prog 35 #[v1, nodA d A k c, .bool (d.st.toList.isEmpty)] W' fun e w' => e = .returned (.bool true) ∧ Below W'.heap.size W' w'))
    (C2 : Hid (∀ W', Below W.heap.size W W' → Calls Tryz.prog 35 #[v2, nodA d A k c, .bool (((d.nm : Int) == 0))] W' fun e w' => e = .returned (.bool true) ∧ Below W'.heap.size W' w'))
    (C3 : Hid (∀ W', Below W.heap.size W W' → Calls Tryz.prog 35 #[v3, nodA d A k c, .bool (!d.fl)] W' fun e w' => e = .returned (.bool true) ∧ Below W'.heap.size W' w'))
    (C4 : Hid (∀ W', Below W.heap.size W W' → Calls Tryz.prog 35 #[v4, nodA d A k c, .bool (((k : Int) == 0))] W' fun e w' => e = .returned (.bool y) ∧ Below W'.heap.size W' w')) :
    Calls Tryz.prog 25 #[.agg #[v0, v1, v2, v3, v4], nodA d A k c] W fun e w' => e = .returned (.bool y) ∧ Below W.heap.size W w' := by
  obtain ⟨W1, hW1⟩ : ∃ W1, boxN (W.alloc (.cells #[v0, v1, v2, v3, v4] 63)) d A k c = W1 := ⟨_, rfl⟩
  have bW : Below W.heap.size W W1 := by rw [← hW1]; exact (b1 _).alloc (by simp) _
  have s0 : W1.cell? ⟨W.heap.size, 0, none⟩ = some v0 := by rw [← hW1]; simp
  have s1 : W1.cell? ⟨W.heap.size, 1, none⟩ = some v1 := by rw [← hW1]; simp
  have s2 : W1.cell? ⟨W.heap.size, 2, none⟩ = some v2 := by rw [← hW1]; simp
  have s3 : W1.cell? ⟨W.heap.size, 3, none⟩ = some v3 := by rw [← hW1]; simp
  have s4 : W1.cell? ⟨W.heap.size, 4, none⟩ = some v4 := by rw [← hW1]; simp
  have m0 : W1.cell? ⟨W.heap.size + 1, 0, none⟩ = some (.int .i64 d.k) := by rw [← hW1]; simp
  have m1 : W1.cell? ⟨W.heap.size + 1, 1, none⟩ = some (.string d.op) := by rw [← hW1]; simp
  have m2 : W1.cell? ⟨W.heap.size + 1, 2, none⟩ = some (.string d.st) := by rw [← hW1]; simp
  have m3 : W1.cell? ⟨W.heap.size + 1, 3, none⟩ = some (.float .f64 d.nm) := by rw [← hW1]; simp
  have m4 : W1.cell? ⟨W.heap.size + 1, 4, none⟩ = some (.bool d.fl) := by rw [← hW1]; simp
  have m5 : W1.cell? ⟨W.heap.size + 1, 5, none⟩ = some (.slice A k c) := by rw [← hW1]; simp
  have m6 : W1.cell? ⟨W.heap.size + 1, 6, none⟩ = some (.int .i64 d.ps) := by rw [← hW1]; simp
  have C0 : Hid (∀ W', Below W1.heap.size W1 W' → _) := Lib.hid fun W' hb => C0.out W' (bW.trans (hb.mono bW.size))
  have C1 : Hid (∀ W', Below W1.heap.size W1 W' → _) := Lib.hid fun W' hb => C1.out W' (bW.trans (hb.mono bW.size))
  have C2 : Hid (∀ W', Below W1.heap.size W1 W' → _) := Lib.hid fun W' hb => C2.out W' (bW.trans (hb.mono bW.size))
  have C3 : Hid (∀ W', Below W1.heap.size W1 W' → _) := Lib.hid fun W' hb => C3.out W' (bW.trans (hb.mono bW.size))
  have C4 : Hid (∀ W', Below W1.heap.size W1 W' → _) := Lib.hid fun W' hb => C4.out W' (bW.trans (hb.mono bW.size))
  unfold nodA at C0 C1 C2 C3 C4 ⊢
  go_enter Tryz.func25, Tryz.ntmps25
  go_upto_region 1 with fail
  have HW := Lib.hid bW
  clear hW1 bW
  refine wp_region_held_drew (S := fun wx => Below W1.heap.size W1 wx) (by kernel_rfl) ((Below.refl _ _).drew) (fun hHeld => ?_)
  refine take_s (i := 0) rfl (by kernel_rfl) (by kernel_rfl) (by kernel_rfl) (fun _ _ _ h => h) (Or.inl ⟨by rfl, by (intro w hS; go_simp; try with_reducible rfl)⟩) rfl (by assumption) ?_; simp only [lset]
  refine take_s (i := 1) rfl (by kernel_rfl) (by kernel_rfl) (by kernel_rfl) (fun _ _ _ h => h) (Or.inl ⟨by rfl, by (intro w hS; have q0 := cell_kept s0 hS; go_simp; try with_reducible rfl)⟩) rfl (by assumption) ?_; simp only [lset]
  refine take_s (i := 2) rfl (by kernel_rfl) (by kernel_rfl) (by kernel_rfl) (fun _ _ _ h => h) (Or.inl ⟨by rfl, by (intro w hS; have q0 := cell_kept m0 hS; have q1 := cell_kept m1 hS; have q2 := cell_kept m2 hS; have q3 := cell_kept m3 hS; have q4 := cell_kept m4 hS; have q5 := cell_kept m5 hS; have q6 := cell_kept m6 hS; go_simp; try with_reducible rfl)⟩) rfl (by assumption) ?_; simp only [lset]
  refine take_s (i := 3) rfl (by kernel_rfl) (by kernel_rfl) (by kernel_rfl) (fun _ _ _ h => h) (Or.inl ⟨by rfl, by (intro w hS; go_simp; try with_reducible rfl)⟩) rfl (by assumption) ?_; simp only [lset]
  refine take_s (i := 4) rfl (by kernel_rfl) (by kernel_rfl) (by kernel_rfl) (fun _ _ _ h => h) (Or.inl ⟨by rfl, by (intro w hS; have q0 := cell_kept m1 hS; go_simp; try with_reducible rfl)⟩) rfl (by assumption) ?_; simp only [lset]
  refine take_s (i := 5) rfl (by kernel_rfl) (by kernel_rfl) (by kernel_rfl) (fun _ _ _ h => h) (Or.inl ⟨by rfl, by (intro w hS; go_simp; try with_reducible rfl)⟩) rfl (by assumption) ?_; simp only [lset]
  refine call_s (i := 6) (by kernel_rfl) rfl rfl (by rfl) (fun K hK => ?_)
  go_simp
  refine (C0.out _ hHeld).mono ?_
  rintro e w2 ⟨rfl, b2⟩
  have hHe2 := hHeld.trans (b2.mono hHeld.size)
  clear hHeld b2
  refine hK.out _ _ hHe2 ?_; clear hK K; simp only [lset]
  have hHeld := hHe2; clear hHe2
  refine take_s (i := 7) rfl (by kernel_rfl) (by kernel_rfl) (by kernel_rfl) (fun _ _ _ h => h) (Or.inl ⟨by rfl, by (intro w hS; go_simp; try with_reducible rfl)⟩) rfl (by assumption) ?_; simp only [lset]
  refine take_s (i := 8) rfl (by kernel_rfl) (by kernel_rfl) (by kernel_rfl) (fun _ _ _ h => h) (Or.inl ⟨by rfl, by (intro w hS; go_simp; try with_reducible rfl)⟩) rfl (by assumption) ?_; simp only [lset]
  refine take_s (i := 9) rfl (by kernel_rfl) (by kernel_rfl) (by kernel_rfl) (fun _ _ _ h => h) (Or.inl ⟨by rfl, by (intro w hS; have q0 := cell_kept s1 hS; go_simp; try with_reducible rfl)⟩) rfl (by assumption) ?_; simp only [lset]
  refine take_s (i := 10) rfl (by kernel_rfl) (by kernel_rfl) (by kernel_rfl) (fun _ _ _ h => h) (Or.inl ⟨by rfl, by (intro w hS; have q0 := cell_kept m0 hS; have q1 := cell_kept m1 hS; have q2 := cell_kept m2 hS; have q3 := cell_kept m3 hS; have q4 := cell_kept m4 hS; have q5 := cell_kept m5 hS; have q6 := cell_kept m6 hS; go_simp; try with_reducible rfl)⟩) rfl (by assumption) ?_; simp only [lset]
  refine take_s (i := 11) rfl (by kernel_rfl) (by kernel_rfl) (by kernel_rfl) (fun _ _ _ h => h) (Or.inl ⟨by rfl, by (intro w hS; go_simp; try with_reducible rfl)⟩) rfl (by assumption) ?_; simp only [lset]
  refine take_s (i := 12) rfl (by kernel_rfl) (by kernel_rfl) (by kernel_rfl) (fun _ _ _ h => h) (Or.inl ⟨by rfl, by (intro w hS; have q0 := cell_kept m2 hS; go_simp; try with_reducible rfl)⟩) rfl (by assumption) ?_; simp only [lset]
  refine take_s (i := 13) rfl (by kernel_rfl) (by kernel_rfl) (by kernel_rfl) (fun _ _ _ h => h) (Or.inl ⟨by rfl, by (intro w hS; go_simp; try with_reducible rfl)⟩) rfl (by assumption) ?_; simp only [lset]
  refine call_s (i := 14) (by kernel_rfl) rfl rfl (by rfl) (fun K hK => ?_)
  go_simp
  refine (C1.out _ hHeld).mono ?_
  rintro e w2 ⟨rfl, b2⟩
  have hHe2 := hHeld.trans (b2.mono hHeld.size)
  clear hHeld b2
  refine hK.out _ _ hHe2 ?_; clear hK K; simp only [lset]
  have hHeld := hHe2; clear hHe2
  refine take_s (i := 15) rfl (by kernel_rfl) (by kernel_rfl) (by kernel_rfl) (fun _ _ _ h => h) (Or.inl ⟨by rfl, by (intro w hS; go_simp; try with_reducible rfl)⟩) rfl (by assumption) ?_; simp only [lset]
  refine take_s (i := 16) rfl (by kernel_rfl) (by kernel_rfl) (by kernel_rfl) (fun _ _ _ h => h) (Or.inl ⟨by rfl, by (intro w hS; go_simp; try with_reducible rfl)⟩) rfl (by assumption) ?_; simp only [lset]
  refine take_s (i := 17) rfl (by kernel_rfl) (by kernel_rfl) (by kernel_rfl) (fun _ _ _ h => h) (Or.inl ⟨by rfl, by (intro w hS; go_simp; try with_reducible rfl)⟩) rfl (by assumption) ?_; simp only [lset]
  refine take_s (i := 18) rfl (by kernel_rfl) (by kernel_rfl) (by kernel_rfl) (fun _ _ _ h => h) (Or.inl ⟨by rfl, by (intro w hS; have q0 := cell_kept s2 hS; go_simp; try with_reducible rfl)⟩) rfl (by assumption) ?_; simp only [lset]
  refine take_s (i := 19) rfl (by kernel_rfl) (by kernel_rfl) (by kernel_rfl) (fun _ _ _ h => h) (Or.inl ⟨by rfl, by (intro w hS; have q0 := cell_kept m0 hS; have q1 := cell_kept m1 hS; have q2 := cell_kept m2 hS; have q3 := cell_kept m3 hS; have q4 := cell_kept m4 hS; have q5 := cell_kept m5 hS; have q6 := cell_kept m6 hS; go_simp; try with_reducible rfl)⟩) rfl (by assumption) ?_; simp only [lset]
  refine take_s (i := 20) rfl (by kernel_rfl) (by kernel_rfl) (by kernel_rfl) (fun _ _ _ h => h) (Or.inl ⟨by rfl, by (intro w hS; go_simp; try with_reducible rfl)⟩) rfl (by assumption) ?_; simp only [lset]
  refine take_s (i := 21) rfl (by kernel_rfl) (by kernel_rfl) (by kernel_rfl) (fun _ _ _ h => h) (Or.inl ⟨by rfl, by (intro w hS; have q0 := cell_kept m3 hS; go_simp; try with_reducible rfl)⟩) rfl (by assumption) ?_; simp only [lset]
  refine take_s (i := 22) rfl (by kernel_rfl) (by kernel_rfl) (by kernel_rfl) (fun _ _ _ h => h) (Or.inl ⟨by rfl, by (intro w hS; go_simp; try with_reducible rfl)⟩) rfl (by assumption) ?_; simp only [lset]
  refine take_s (i := 23) rfl (by kernel_rfl) (by kernel_rfl) (by kernel_rfl) (fun _ _ _ h => h) (Or.inl ⟨by rfl, by (intro w hS; go_simp; try with_reducible rfl)⟩) rfl (by assumption) ?_; simp only [lset]
  refine call_s (i := 24) (by kernel_rfl) rfl rfl (by rfl) (fun K hK => ?_)
  go_simp
  refine (C2.out _ hHeld).mono ?_
  rintro e w2 ⟨rfl, b2⟩
  have hHe2 := hHeld.trans (b2.mono hHeld.size)
  clear hHeld b2
  refine hK.out _ _ hHe2 ?_; clear hK K; simp only [lset]
  have hHeld := hHe2; clear hHe2
  refine take_s (i := 25) rfl (by kernel_rfl) (by kernel_rfl) (by kernel_rfl) (fun _ _ _ h => h) (Or.inl ⟨by rfl, by (intro w hS; go_simp; try with_reducible rfl)⟩) rfl (by assumption) ?_; simp only [lset]
  refine take_s (i := 26) rfl (by kernel_rfl) (by kernel_rfl) (by kernel_rfl) (fun _ _ _ h => h) (Or.inl ⟨by rfl, by (intro w hS; go_simp; try with_reducible rfl)⟩) rfl (by assumption) ?_; simp only [lset]
  refine take_s (i := 27) rfl (by kernel_rfl) (by kernel_rfl) (by kernel_rfl) (fun _ _ _ h => h) (Or.inl ⟨by rfl, by (intro w hS; go_simp; try with_reducible rfl)⟩) rfl (by assumption) ?_; simp only [lset]
  refine take_s (i := 28) rfl (by kernel_rfl) (by kernel_rfl) (by kernel_rfl) (fun _ _ _ h => h) (Or.inl ⟨by rfl, by (intro w hS; have q0 := cell_kept s3 hS; go_simp; try with_reducible rfl)⟩) rfl (by assumption) ?_; simp only [lset]
  refine take_s (i := 29) rfl (by kernel_rfl) (by kernel_rfl) (by kernel_rfl) (fun _ _ _ h => h) (Or.inl ⟨by rfl, by (intro w hS; have q0 := cell_kept m0 hS; have q1 := cell_kept m1 hS; have q2 := cell_kept m2 hS; have q3 := cell_kept m3 hS; have q4 := cell_kept m4 hS; have q5 := cell_kept m5 hS; have q6 := cell_kept m6 hS; go_simp; try with_reducible rfl)⟩) rfl (by assumption) ?_; simp only [lset]
  refine take_s (i := 30) rfl (by kernel_rfl) (by kernel_rfl) (by kernel_rfl) (fun _ _ _ h => h) (Or.inl ⟨by rfl, by (intro w hS; go_simp; try with_reducible rfl)⟩) rfl (by assumption) ?_; simp only [lset]
  refine take_s (i := 31) rfl (by kernel_rfl) (by kernel_rfl) (by kernel_rfl) (fun _ _ _ h => h) (Or.inl ⟨by rfl, by (intro w hS; have q0 := cell_kept m4 hS; go_simp; try with_reducible rfl)⟩) rfl (by assumption) ?_; simp only [lset]
  refine take_s (i := 32) rfl (by kernel_rfl) (by kernel_rfl) (by kernel_rfl) (fun _ _ _ h => h) (Or.inl ⟨by rfl, by (intro w hS; go_simp; try with_reducible rfl)⟩) rfl (by assumption) ?_; simp only [lset]
  refine call_s (i := 33) (by kernel_rfl) rfl rfl (by rfl) (fun K hK => ?_)
  go_simp
  refine (C3.out _ hHeld).mono ?_
  rintro e w2 ⟨rfl, b2⟩
  have hHe2 := hHeld.trans (b2.mono hHeld.size)
  clear hHeld b2
  refine hK.out _ _ hHe2 ?_; clear hK K; simp only [lset]
  have hHeld := hHe2; clear hHe2
  refine take_s (i := 34) rfl (by kernel_rfl) (by kernel_rfl) (by kernel_rfl) (fun _ _ _ h => h) (Or.inl ⟨by rfl, by (intro w hS; go_simp; try with_reducible rfl)⟩) rfl (by assumption) ?_; simp only [lset]
  refine take_s (i := 35) rfl (by kernel_rfl) (by kernel_rfl) (by kernel_rfl) (fun _ _ _ h => h) (Or.inl ⟨by rfl, by (intro w hS; go_simp; try with_reducible rfl)⟩) rfl (by assumption) ?_; simp only [lset]
  refine take_s (i := 36) rfl (by kernel_rfl) (by kernel_rfl) (by kernel_rfl) (fun _ _ _ h => h) (Or.inl ⟨by rfl, by (intro w hS; go_simp; try with_reducible rfl)⟩) rfl (by assumption) ?_; simp only [lset]
  refine take_s (i := 37) rfl (by kernel_rfl) (by kernel_rfl) (by kernel_rfl) (fun _ _ _ h => h) (Or.inl ⟨by rfl, by (intro w hS; have q0 := cell_kept s4 hS; go_simp; try with_reducible rfl)⟩) rfl (by assumption) ?_; simp only [lset]
  refine take_s (i := 38) rfl (by kernel_rfl) (by kernel_rfl) (by kernel_rfl) (fun _ _ _ h => h) (Or.inl ⟨by rfl, by (intro w hS; have q0 := cell_kept m0 hS; have q1 := cell_kept m1 hS; have q2 := cell_kept m2 hS; have q3 := cell_kept m3 hS; have q4 := cell_kept m4 hS; have q5 := cell_kept m5 hS; have q6 := cell_kept m6 hS; go_simp; try with_reducible rfl)⟩) rfl (by assumption) ?_; simp only [lset]
  refine take_s (i := 39) rfl (by kernel_rfl) (by kernel_rfl) (by kernel_rfl) (fun _ _ _ h => h) (Or.inl ⟨by rfl, by (intro w hS; go_simp; try with_reducible rfl)⟩) rfl (by assumption) ?_; simp only [lset]
  refine take_s (i := 40) rfl (by kernel_rfl) (by kernel_rfl) (by kernel_rfl) (fun _ _ _ h => h) (Or.inl ⟨by rfl, by (intro w hS; have q0 := cell_kept m5 hS; go_simp; try with_reducible rfl)⟩) rfl (by assumption) ?_; simp only [lset]
  refine take_s (i := 41) rfl (by kernel_rfl) (by kernel_rfl) (by kernel_rfl) (fun _ _ _ h => h) (Or.inl ⟨by rfl, by (intro w hS; go_simp; try with_reducible rfl)⟩) rfl (by assumption) ?_; simp only [lset]
  refine take_s (i := 42) rfl (by kernel_rfl) (by kernel_rfl) (by kernel_rfl) (fun _ _ _ h => h) (Or.inl ⟨by rfl, by (intro w hS; go_simp; try with_reducible rfl)⟩) rfl (by assumption) ?_; simp only [lset]
  refine call_s (i := 43) (by kernel_rfl) rfl rfl (by rfl) (fun K hK => ?_)
  go_simp
  refine (C4.out _ hHeld).mono ?_
  rintro e w2 ⟨rfl, b2⟩
  have hHe2 := hHeld.trans (b2.mono hHeld.size)
  clear hHeld b2
  refine hK.out _ _ hHe2 ?_; clear hK K; simp only [lset]
  have hHeld := hHe2; clear hHe2
  refine take_s (i := 44) rfl (by kernel_rfl) (by kernel_rfl) (by kernel_rfl) (fun _ _ _ h => h) (Or.inl ⟨by rfl, by (intro w hS; go_simp; try with_reducible rfl)⟩) rfl (by assumption) ?_; simp only [lset]
  refine take_s (i := 45) rfl (by kernel_rfl) (by kernel_rfl) (by kernel_rfl) (fun _ _ _ h => h) (Or.inl ⟨by rfl, by (intro w hS; go_simp; try with_reducible rfl)⟩) rfl (by assumption) ?_; simp only [lset]
  refine wpAnyH_done (by kernel_rfl) ?_ _
  have HS := Lib.hid hHeld
  clear hHeld
  go_wp2
  go_ret
  exact ⟨rfl, HW.out.trans (HS.out.mono HW.out.size)⟩
end Go.Proofs.YtfpmhahjemdodaaGreatDoor
