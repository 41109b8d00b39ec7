/-
  The program's tests first, last, row.
-/
import Derived.Test.YtfpmhahjemdodaaGreatDoorMqai
namespace Go.Proofs.YtfpmhahjemdodaaGreatDoor
open Go.RowKit Go.Shelf
attribute [local go_sem] stFl hmf
set_option maxRecDepth 100000 in
set_option maxHeartbeats 2000000 in
theorem first1_none (d : Nd) (A : Option Addr) (c p1 p2 : Nat) (W : World) : Calls Tryz.prog 139 #[nodA d A 0 c, .pointer (some ⟨p1, 0, none⟩), .pointer (some ⟨p2, 0, none⟩)] W fun e w' => e = .returned (.bool false) ∧ Below W.heap.size W w' := by
  unfold nodA
  obtain ⟨W1, hW1⟩ : ∃ W1, boxN W d A 0 c = W1 := ⟨_, rfl⟩
  have bW : Below W.heap.size W W1 := by rw [← hW1]; exact b1 _
  have s5 : W1.cell? ⟨W.heap.size, 5, none⟩ = some (.slice A 0 c) := by rw [← hW1]; simp
  go_enter Tryz.func139, Tryz.ntmps139
  go_upto_region 1 with fail
  have HW := Lib.hid bW
  clear hW1 bW
  refine wp_region_held_drew (S := fun wx => Below W1.heap.size W1 wx) (by kernel_rfl) ((Below.refl _ _).drew) (fun hHeld => ?_)
  refine take_s (i := 0) rfl (by kernel_rfl) (by kernel_rfl) (by kernel_rfl) (fun _ _ _ h => h) (Or.inl ⟨by rfl, by (intro w hS; go_simp; try with_reducible rfl)⟩) rfl (by assumption) ?_; simp only [lset]
  refine take_s (i := 1) rfl (by kernel_rfl) (by kernel_rfl) (by kernel_rfl) (fun _ _ _ h => h) (Or.inl ⟨by rfl, by (intro w hS; have q0 := cell_kept s5 hS; go_simp; try with_reducible rfl)⟩) rfl (by assumption) ?_; simp only [lset]
  refine take_s (i := 2) rfl (by kernel_rfl) (by kernel_rfl) (by kernel_rfl) (fun _ _ _ h => h) (Or.inl ⟨by rfl, by (intro w hS; go_simp; try with_reducible rfl)⟩) rfl (by assumption) ?_; simp only [lset]
  refine take_s (i := 3) rfl (by kernel_rfl) (by kernel_rfl) (by kernel_rfl) (fun _ _ _ h => h) (Or.inl ⟨by rfl, by (intro w hS; go_simp; try with_reducible rfl)⟩) rfl (by assumption) ?_; simp only [lset]
  refine take_s (i := 4) rfl (by kernel_rfl) (by kernel_rfl) (by kernel_rfl) (fun _ _ _ h => h) (Or.inl ⟨by rfl, by (intro w hS; go_simp; try with_reducible rfl)⟩) rfl (by assumption) ?_; simp only [lset]
  refine take_s (i := 5) rfl (by kernel_rfl) (by kernel_rfl) (by kernel_rfl) (fun _ _ _ h => h) (Or.inr ⟨by rfl, rfl⟩) rfl (by assumption) ?_; simp only [lset]
  refine take_s (i := 6) rfl (by kernel_rfl) (by kernel_rfl) (by kernel_rfl) (fun _ _ _ h => h) (Or.inr ⟨by rfl, rfl⟩) rfl (by assumption) ?_; simp only [lset]
  refine take_s (i := 7) rfl (by kernel_rfl) (by kernel_rfl) (by kernel_rfl) (fun _ _ _ h => h) (Or.inr ⟨by rfl, rfl⟩) rfl (by assumption) ?_; simp only [lset]
  refine take_s (i := 8) rfl (by kernel_rfl) (by kernel_rfl) (by kernel_rfl) (fun _ _ _ h => h) (Or.inr ⟨by rfl, rfl⟩) rfl (by assumption) ?_; simp only [lset]
  refine take_s (i := 9) rfl (by kernel_rfl) (by kernel_rfl) (by kernel_rfl) (fun _ _ _ h => h) (Or.inr ⟨by rfl, rfl⟩) rfl (by assumption) ?_; simp only [lset]
  refine take_s (i := 10) rfl (by kernel_rfl) (by kernel_rfl) (by kernel_rfl) (fun _ _ _ h => h) (Or.inr ⟨by rfl, rfl⟩) rfl (by assumption) ?_; simp only [lset]
  refine take_s (i := 11) rfl (by kernel_rfl) (by kernel_rfl) (by kernel_rfl) (fun _ _ _ h => h) (Or.inl ⟨by rfl, by (intro w hS; go_simp; try with_reducible rfl)⟩) rfl (by assumption) ?_; simp only [lset]
  refine take_s (i := 12) rfl (by kernel_rfl) (by kernel_rfl) (by kernel_rfl) (fun _ _ _ h => h) (Or.inl ⟨by rfl, by (intro w hS; go_simp; try with_reducible rfl)⟩) rfl (by assumption) ?_; simp only [lset]
  refine take_s (i := 13) rfl (by kernel_rfl) (by kernel_rfl) (by kernel_rfl) (fun _ _ _ h => h) (Or.inr ⟨by rfl, rfl⟩) rfl (by assumption) ?_; simp only [lset]
  refine take_s (i := 14) rfl (by kernel_rfl) (by kernel_rfl) (by kernel_rfl) (fun _ _ _ h => h) (Or.inr ⟨by rfl, rfl⟩) rfl (by assumption) ?_; simp only [lset]
  refine take_s (i := 15) rfl (by kernel_rfl) (by kernel_rfl) (by kernel_rfl) (fun _ _ _ h => h) (Or.inr ⟨by rfl, rfl⟩) rfl (by assumption) ?_; simp only [lset]
  refine take_s (i := 16) rfl (by kernel_rfl) (by kernel_rfl) (by kernel_rfl) (fun _ _ _ h => h) (Or.inr ⟨by rfl, rfl⟩) rfl (by assumption) ?_; simp only [lset]
  refine take_s (i := 17) rfl (by kernel_rfl) (by kernel_rfl) (by kernel_rfl) (fun _ _ _ h => h) (Or.inr ⟨by rfl, rfl⟩) rfl (by assumption) ?_; simp only [lset]
  refine take_s (i := 18) rfl (by kernel_rfl) (by kernel_rfl) (by kernel_rfl) (fun _ _ _ h => h) (Or.inl ⟨by rfl, by (intro w hS; go_simp; try with_reducible rfl)⟩) rfl (by assumption) ?_; simp only [lset]
  refine take_s (i := 19) rfl (by kernel_rfl) (by kernel_rfl) (by kernel_rfl) (fun _ _ _ h => h) (Or.inl ⟨by rfl, by (intro w hS; go_simp; try with_reducible rfl)⟩) rfl (by assumption) ?_; simp only [lset]
  refine wpAnyH_done (by kernel_rfl) ?_ _
  have HS := Lib.hid hHeld
  clear hHeld
  go_wp2
  go_ret
  exact ⟨rfl, HW.out.trans (HS.out.mono HW.out.size)⟩
set_option maxRecDepth 100000 in
set_option maxHeartbeats 2000000 in
theorem last1_none (d : Nd) (A : Option Addr) (c p1 p2 : Nat) (W : World) : Calls Tryz.prog 150 #[nodA d A 0 c, .pointer (some ⟨p1, 0, none⟩), .pointer (some ⟨p2, 0, none⟩)] W fun e w' => e = .returned (.bool false) ∧ Below W.heap.size W w' := by
  unfold nodA
  obtain ⟨W1, hW1⟩ : ∃ W1, boxN W d A 0 c = W1 := ⟨_, rfl⟩
  have bW : Below W.heap.size W W1 := by rw [← hW1]; exact b1 _
  have s5 : W1.cell? ⟨W.heap.size, 5, none⟩ = some (.slice A 0 c) := by rw [← hW1]; simp
  go_enter Tryz.func150, Tryz.ntmps150
  go_upto_region 2 with fail
  have HW := Lib.hid bW
  clear hW1 bW
  refine wp_region_held_drew (S := fun wx => Below W1.heap.size W1 wx) (by kernel_rfl) ((Below.refl _ _).drew) (fun hHeld => ?_)
  refine take_s (i := 0) rfl (by kernel_rfl) (by kernel_rfl) (by kernel_rfl) (fun _ _ _ h => h) (Or.inl ⟨by rfl, by (intro w hS; go_simp; try with_reducible rfl)⟩) rfl (by assumption) ?_; simp only [lset]
  refine take_s (i := 1) rfl (by kernel_rfl) (by kernel_rfl) (by kernel_rfl) (fun _ _ _ h => h) (Or.inl ⟨by rfl, by (intro w hS; go_simp; try with_reducible rfl)⟩) rfl (by assumption) ?_; simp only [lset]
  refine take_s (i := 2) rfl (by kernel_rfl) (by kernel_rfl) (by kernel_rfl) (fun _ _ _ h => h) (Or.inl ⟨by rfl, by (intro w hS; go_simp; try with_reducible rfl)⟩) rfl (by assumption) ?_; simp only [lset]
  refine take_s (i := 3) rfl (by kernel_rfl) (by kernel_rfl) (by kernel_rfl) (fun _ _ _ h => h) (Or.inr ⟨by rfl, rfl⟩) rfl (by assumption) ?_; simp only [lset]
  refine take_s (i := 4) rfl (by kernel_rfl) (by kernel_rfl) (by kernel_rfl) (fun _ _ _ h => h) (Or.inr ⟨by rfl, rfl⟩) rfl (by assumption) ?_; simp only [lset]
  refine take_s (i := 5) rfl (by kernel_rfl) (by kernel_rfl) (by kernel_rfl) (fun _ _ _ h => h) (Or.inr ⟨by rfl, rfl⟩) rfl (by assumption) ?_; simp only [lset]
  refine take_s (i := 6) rfl (by kernel_rfl) (by kernel_rfl) (by kernel_rfl) (fun _ _ _ h => h) (Or.inr ⟨by rfl, rfl⟩) rfl (by assumption) ?_; simp only [lset]
  refine take_s (i := 7) rfl (by kernel_rfl) (by kernel_rfl) (by kernel_rfl) (fun _ _ _ h => h) (Or.inr ⟨by rfl, rfl⟩) rfl (by assumption) ?_; simp only [lset]
  refine take_s (i := 8) rfl (by kernel_rfl) (by kernel_rfl) (by kernel_rfl) (fun _ _ _ h => h) (Or.inr ⟨by rfl, rfl⟩) rfl (by assumption) ?_; simp only [lset]
  refine take_s (i := 9) rfl (by kernel_rfl) (by kernel_rfl) (by kernel_rfl) (fun _ _ _ h => h) (Or.inl ⟨by rfl, by (intro w hS; go_simp; try with_reducible rfl)⟩) rfl (by assumption) ?_; simp only [lset]
  refine take_s (i := 10) rfl (by kernel_rfl) (by kernel_rfl) (by kernel_rfl) (fun _ _ _ h => h) (Or.inl ⟨by rfl, by (intro w hS; go_simp; try with_reducible rfl)⟩) rfl (by assumption) ?_; simp only [lset]
  refine take_s (i := 11) rfl (by kernel_rfl) (by kernel_rfl) (by kernel_rfl) (fun _ _ _ h => h) (Or.inr ⟨by rfl, rfl⟩) rfl (by assumption) ?_; simp only [lset]
  refine take_s (i := 12) rfl (by kernel_rfl) (by kernel_rfl) (by kernel_rfl) (fun _ _ _ h => h) (Or.inr ⟨by rfl, rfl⟩) rfl (by assumption) ?_; simp only [lset]
  refine take_s (i := 13) rfl (by kernel_rfl) (by kernel_rfl) (by kernel_rfl) (fun _ _ _ h => h) (Or.inr ⟨by rfl, rfl⟩) rfl (by assumption) ?_; simp only [lset]
  refine take_s (i := 14) rfl (by kernel_rfl) (by kernel_rfl) (by kernel_rfl) (fun _ _ _ h => h) (Or.inr ⟨by rfl, rfl⟩) rfl (by assumption) ?_; simp only [lset]
  refine take_s (i := 15) rfl (by kernel_rfl) (by kernel_rfl) (by kernel_rfl) (fun _ _ _ h => h) (Or.inr ⟨by rfl, rfl⟩) rfl (by assumption) ?_; simp only [lset]
  refine take_s (i := 16) rfl (by kernel_rfl) (by kernel_rfl) (by kernel_rfl) (fun _ _ _ h => h) (Or.inr ⟨by rfl, rfl⟩) rfl (by assumption) ?_; simp only [lset]
  refine take_s (i := 17) rfl (by kernel_rfl) (by kernel_rfl) (by kernel_rfl) (fun _ _ _ h => h) (Or.inr ⟨by rfl, rfl⟩) rfl (by assumption) ?_; simp only [lset]
  refine take_s (i := 18) rfl (by kernel_rfl) (by kernel_rfl) (by kernel_rfl) (fun _ _ _ h => h) (Or.inl ⟨by rfl, by (intro w hS; go_simp; try with_reducible rfl)⟩) rfl (by assumption) ?_; simp only [lset]
  refine take_s (i := 19) rfl (by kernel_rfl) (by kernel_rfl) (by kernel_rfl) (fun _ _ _ h => h) (Or.inl ⟨by rfl, by (intro w hS; go_simp; try with_reducible rfl)⟩) rfl (by assumption) ?_; simp only [lset]
  refine wpAnyH_done (by kernel_rfl) ?_ _
  have HS := Lib.hid hHeld
  clear hHeld
  go_wp2
  go_ret
  exact ⟨rfl, HW.out.trans (HS.out.mono HW.out.size)⟩
set_option maxRecDepth 100000 in
set_option maxHeartbeats 2000000 in
theorem last1_f (d : Nd) (b o k c n : Nat) (p1 p2 g : Nat) (cg : Array Value) (vs : Value) (W : World) (_hg : ∀ args W, (callFunc g args).run Tryz.prog W = .ok (.enter g args) W) (hk : k = n + 1) (hc : k ≤ c) (hm : k ≤ maxLen)
    (h1 : W.cell? ⟨p1, 0, none⟩ = some vs) (h2 : W.cell? ⟨p2, 0, none⟩ = some (.func (.func g) #[] cg))
    (C1 : Hid (∀ W', Below W.heap.size W W' → Calls Tryz.prog 140 #[.slice (some ⟨b, o, none⟩) n c, vs] W' fun e w' => e = .returned (.bool false) ∧ Below W'.heap.size W' w')) :
    Calls Tryz.prog 150 #[nodA d (some ⟨b, o, none⟩) k c, .pointer (some ⟨p1, 0, none⟩), .pointer (some ⟨p2, 0, none⟩)] W fun e w' => e = .returned (.bool false) ∧ Below W.heap.size W w' := by
  have HB := Lib.hid (b1 (w := W))
  unfold nodA
  subst hk
  have hk1 : ((n + 1 : Nat) : Int) - 1 = (n : Int) := by omega
  have hnn : (0 : Int) ≤ (n : Int) := by omega
  have hnc : n ≤ c := by omega
  have hnl : (n : Int) < (n : Int) + 1 := by omega
  have hnm : (n : Int) + 1 ≤ 9223372036854775807 := by unfold maxLen at hm; omega
  obtain ⟨W1, hW1⟩ : ∃ W1, boxN W d (some ⟨b, o, none⟩) (n + 1) c = W1 := ⟨_, rfl⟩
  have bW : Below W.heap.size W W1 := by rw [← hW1]; exact b1 _
  have g1 := cell_kept h1 bW
  have g2 := cell_kept h2 bW
  have s5 : W1.cell? ⟨W.heap.size, 5, none⟩ = some (.slice (some ⟨b, o, none⟩) (n + 1 : Nat) c) := by rw [← hW1]; simp
  have C1 : Hid (∀ W', Below W1.heap.size W1 W' → _) := Lib.hid fun W' hb => C1.out W' (bW.trans (hb.mono bW.size))
  clear h1 h2
  go_enter Tryz.func150, Tryz.ntmps150
  go_upto_region 2 with fail
  have HW := Lib.hid bW
  clear hW1 bW
  refine wp_region_held_drew (S := fun wx => Below W1.heap.size W1 wx) (by kernel_rfl) ((Below.refl _ _).drew) (fun hHeld => ?_)
  refine take_s (i := 0) rfl (by kernel_rfl) (by kernel_rfl) (by kernel_rfl) (fun _ _ _ h => h) (Or.inl ⟨by rfl, by (intro w hS; go_simp; try with_reducible rfl)⟩) rfl (by assumption) ?_; simp only [lset]
  refine take_s (i := 1) rfl (by kernel_rfl) (by kernel_rfl) (by kernel_rfl) (fun _ _ _ h => h) (Or.inl ⟨by rfl, by (intro w hS; go_simp; try with_reducible rfl)⟩) rfl (by assumption) ?_; simp only [lset]
  refine take_s (i := 2) rfl (by kernel_rfl) (by kernel_rfl) (by kernel_rfl) (fun _ _ _ h => h) (Or.inl ⟨by rfl, by (intro w hS; go_simp; try with_reducible rfl)⟩) rfl (by assumption) ?_; simp only [lset]
  refine take_s (i := 3) rfl (by kernel_rfl) (by kernel_rfl) (by kernel_rfl) (fun _ _ _ h => h) (Or.inl ⟨by rfl, by (intro w hS; go_simp; try with_reducible rfl)⟩) rfl (by assumption) ?_; simp only [lset]
  refine take_s (i := 4) rfl (by kernel_rfl) (by kernel_rfl) (by kernel_rfl) (fun _ _ _ h => h) (Or.inl ⟨by rfl, by (intro w hS; have q0 := cell_kept s5 hS; go_simp; try with_reducible rfl)⟩) rfl (by assumption) ?_; simp only [lset]
  refine take_s (i := 5) rfl (by kernel_rfl) (by kernel_rfl) (by kernel_rfl) (fun _ _ _ h => h) (Or.inl ⟨by rfl, by (intro w hS; go_simp; try with_reducible rfl)⟩) rfl (by assumption) ?_; simp only [lset]
  refine take_s (i := 6) rfl (by kernel_rfl) (by kernel_rfl) (by kernel_rfl) (fun _ _ _ h => h) (Or.inl ⟨by rfl, by (intro w hS; go_simp; try with_reducible rfl)⟩) rfl (by assumption) ?_; simp only [lset]
  refine take_s (i := 7) rfl (by kernel_rfl) (by kernel_rfl) (by kernel_rfl) (fun _ _ _ h => h) (Or.inl ⟨by rfl, by (intro w hS; have q0 := cell_kept g1 hS; go_simp; try with_reducible rfl)⟩) rfl (by assumption) ?_; simp only [lset]
  refine call_s (i := 8) (by kernel_rfl) rfl rfl (by rfl) (fun K hK => ?_)
  go_simp
  refine (C1.out _ hHeld).mono ?_
  rintro e w2 ⟨rfl, b2⟩
  have hHe2 := hHeld.trans (b2.mono hHeld.size)
  clear hHeld b2
  refine hK.out _ _ hHe2 ?_; clear hK K; simp only [lset]
  have hHeld := hHe2; clear hHe2
  refine take_s (i := 9) rfl (by kernel_rfl) (by kernel_rfl) (by kernel_rfl) (fun _ _ _ h => h) (Or.inl ⟨by rfl, by (intro w hS; go_simp; try with_reducible rfl)⟩) rfl (by assumption) ?_; simp only [lset]
  refine take_s (i := 10) rfl (by kernel_rfl) (by kernel_rfl) (by kernel_rfl) (fun _ _ _ h => h) (Or.inl ⟨by rfl, by (intro w hS; go_simp; try with_reducible rfl)⟩) rfl (by assumption) ?_; simp only [lset]
  refine take_s (i := 11) rfl (by kernel_rfl) (by kernel_rfl) (by kernel_rfl) (fun _ _ _ h => h) (Or.inr ⟨by rfl, rfl⟩) rfl (by assumption) ?_; simp only [lset]
  refine take_s (i := 12) rfl (by kernel_rfl) (by kernel_rfl) (by kernel_rfl) (fun _ _ _ h => h) (Or.inr ⟨by rfl, rfl⟩) rfl (by assumption) ?_; simp only [lset]
  refine take_s (i := 13) rfl (by kernel_rfl) (by kernel_rfl) (by kernel_rfl) (fun _ _ _ h => h) (Or.inr ⟨by rfl, rfl⟩) rfl (by assumption) ?_; simp only [lset]
  refine take_s (i := 14) rfl (by kernel_rfl) (by kernel_rfl) (by kernel_rfl) (fun _ _ _ h => h) (Or.inr ⟨by rfl, rfl⟩) rfl (by assumption) ?_; simp only [lset]
  refine take_s (i := 15) rfl (by kernel_rfl) (by kernel_rfl) (by kernel_rfl) (fun _ _ _ h => h) (Or.inr ⟨by rfl, rfl⟩) rfl (by assumption) ?_; simp only [lset]
  refine take_s (i := 16) rfl (by kernel_rfl) (by kernel_rfl) (by kernel_rfl) (fun _ _ _ h => h) (Or.inr ⟨by rfl, rfl⟩) rfl (by assumption) ?_; simp only [lset]
  refine take_s (i := 17) rfl (by kernel_rfl) (by kernel_rfl) (by kernel_rfl) (fun _ _ _ h => h) (Or.inr ⟨by rfl, rfl⟩) rfl (by assumption) ?_; simp only [lset]
  refine take_s (i := 18) rfl (by kernel_rfl) (by kernel_rfl) (by kernel_rfl) (fun _ _ _ h => h) (Or.inl ⟨by rfl, by (intro w hS; go_simp; try with_reducible rfl)⟩) rfl (by assumption) ?_; simp only [lset]
  refine take_s (i := 19) rfl (by kernel_rfl) (by kernel_rfl) (by kernel_rfl) (fun _ _ _ h => h) (Or.inl ⟨by rfl, by (intro w hS; go_simp; try with_reducible rfl)⟩) rfl (by assumption) ?_; simp only [lset]
  refine wpAnyH_done (by kernel_rfl) ?_ _
  have HS := Lib.hid hHeld
  clear hHeld
  go_wp2
  go_ret
  exact ⟨rfl, HW.out.trans (HS.out.mono HW.out.size)⟩
set_option maxRecDepth 100000 in
set_option maxHeartbeats 2000000 in
theorem last1_t (d : Nd) (b o k c n : Nat) (d2 : Nd) (A2 : Option Addr) (k2 c2 : Nat) (p1 p2 g : Nat) (cg : Array Value) (vs : Value) (W : World) (hg : ∀ args W, (callFunc g args).run Tryz.prog W = .ok (.enter g args) W) (hk : k = n + 1) (hc : k ≤ c) (hm : k ≤ maxLen)
    (h1 : W.cell? ⟨p1, 0, none⟩ = some vs) (h2 : W.cell? ⟨p2, 0, none⟩ = some (.func (.func g) #[] cg))
    (C1 : Hid (∀ W', Below W.heap.size W W' → Calls Tryz.prog 140 #[.slice (some ⟨b, o, none⟩) n c, vs] W' fun e w' => e = .returned (.bool true) ∧ Below W'.heap.size W' w'))
    (k0 : W.cell? ⟨b, o + n * 7, none⟩ = some (.int .i64 d2.k)) (k1 : W.cell? ⟨b, o + n * 7 + 1, none⟩ = some (.string d2.op)) (k2' : W.cell? ⟨b, o + n * 7 + 2, none⟩ = some (.string d2.st)) (k3 : W.cell? ⟨b, o + n * 7 + 3, none⟩ = some (.float .f64 d2.nm)) (k4 : W.cell? ⟨b, o + n * 7 + 4, none⟩ = some (.bool d2.fl)) (k5 : W.cell? ⟨b, o + n * 7 + 5, none⟩ = some (.slice A2 k2 c2)) (k6 : W.cell? ⟨b, o + n * 7 + 6, none⟩ = some (.int .i64 d2.ps))
    (y : Bool) (C2 : Hid (∀ W', Below W.heap.size W W' → Calls Tryz.prog g (#[nodA d2 A2 k2 c2] ++ cg) W' fun e w' => e = .returned (.bool y) ∧ Below W'.heap.size W' w')) :
    Calls Tryz.prog 150 #[nodA d (some ⟨b, o, none⟩) k c, .pointer (some ⟨p1, 0, none⟩), .pointer (some ⟨p2, 0, none⟩)] W fun e w' => e = .returned (.bool y) ∧ Below W.heap.size W w' := by
  have HB := Lib.hid (b1 (w := W))
  unfold nodA at C2 ⊢
  subst hk
  have hk1 : ((n + 1 : Nat) : Int) - 1 = (n : Int) := by omega
  have hnn : (0 : Int) ≤ (n : Int) := by omega
  have hnc : n ≤ c := by omega
  have hnl : (n : Int) < (n : Int) + 1 := by omega
  have hnm : (n : Int) + 1 ≤ 9223372036854775807 := by unfold maxLen at hm; omega
  obtain ⟨W1, hW1⟩ : ∃ W1, boxN W d (some ⟨b, o, none⟩) (n + 1) c = W1 := ⟨_, rfl⟩
  have bW : Below W.heap.size W W1 := by rw [← hW1]; exact b1 _
  have g1 := cell_kept h1 bW
  have g2 := cell_kept h2 bW
  have s5 : W1.cell? ⟨W.heap.size, 5, none⟩ = some (.slice (some ⟨b, o, none⟩) (n + 1 : Nat) c) := by rw [← hW1]; simp
  have C1 : Hid (∀ W', Below W1.heap.size W1 W' → _) := Lib.hid fun W' hb => C1.out W' (bW.trans (hb.mono bW.size))
  have m0 := cell_kept k0 bW
  have m1 := cell_kept k1 bW
  have m2 := cell_kept k2' bW
  have m3 := cell_kept k3 bW
  have m4 := cell_kept k4 bW
  have m5 := cell_kept k5 bW
  have m6 := cell_kept k6 bW
  have C2 : Hid (∀ W', Below W1.heap.size W1 W' → _) := Lib.hid fun W' hb => C2.out W' (bW.trans (hb.mono bW.size))
  clear h1 h2 k0 k1 k2' k3 k4 k5 k6
  go_enter Tryz.func150, Tryz.ntmps150
  go_upto_region 2 with fail
  have HW := Lib.hid bW
  clear hW1 bW
  refine wp_region_held_drew (S := fun wx => Below W1.heap.size W1 wx) (by kernel_rfl) ((Below.refl _ _).drew) (fun hHeld => ?_)
  refine take_s (i := 0) rfl (by kernel_rfl) (by kernel_rfl) (by kernel_rfl) (fun _ _ _ h => h) (Or.inl ⟨by rfl, by (intro w hS; go_simp; try with_reducible rfl)⟩) rfl (by assumption) ?_; simp only [lset]
  refine take_s (i := 1) rfl (by kernel_rfl) (by kernel_rfl) (by kernel_rfl) (fun _ _ _ h => h) (Or.inl ⟨by rfl, by (intro w hS; go_simp; try with_reducible rfl)⟩) rfl (by assumption) ?_; simp only [lset]
  refine take_s (i := 2) rfl (by kernel_rfl) (by kernel_rfl) (by kernel_rfl) (fun _ _ _ h => h) (Or.inl ⟨by rfl, by (intro w hS; go_simp; try with_reducible rfl)⟩) rfl (by assumption) ?_; simp only [lset]
  refine take_s (i := 3) rfl (by kernel_rfl) (by kernel_rfl) (by kernel_rfl) (fun _ _ _ h => h) (Or.inl ⟨by rfl, by (intro w hS; go_simp; try with_reducible rfl)⟩) rfl (by assumption) ?_; simp only [lset]
  refine take_s (i := 4) rfl (by kernel_rfl) (by kernel_rfl) (by kernel_rfl) (fun _ _ _ h => h) (Or.inl ⟨by rfl, by (intro w hS; have q0 := cell_kept s5 hS; go_simp; try with_reducible rfl)⟩) rfl (by assumption) ?_; simp only [lset]
  refine take_s (i := 5) rfl (by kernel_rfl) (by kernel_rfl) (by kernel_rfl) (fun _ _ _ h => h) (Or.inl ⟨by rfl, by (intro w hS; go_simp; try with_reducible rfl)⟩) rfl (by assumption) ?_; simp only [lset]
  refine take_s (i := 6) rfl (by kernel_rfl) (by kernel_rfl) (by kernel_rfl) (fun _ _ _ h => h) (Or.inl ⟨by rfl, by (intro w hS; go_simp; try with_reducible rfl)⟩) rfl (by assumption) ?_; simp only [lset]
  refine take_s (i := 7) rfl (by kernel_rfl) (by kernel_rfl) (by kernel_rfl) (fun _ _ _ h => h) (Or.inl ⟨by rfl, by (intro w hS; have q0 := cell_kept g1 hS; go_simp; try with_reducible rfl)⟩) rfl (by assumption) ?_; simp only [lset]
  refine call_s (i := 8) (by kernel_rfl) rfl rfl (by rfl) (fun K hK => ?_)
  go_simp
  refine (C1.out _ hHeld).mono ?_
  rintro e w2 ⟨rfl, b2⟩
  have hHe2 := hHeld.trans (b2.mono hHeld.size)
  clear hHeld b2
  refine hK.out _ _ hHe2 ?_; clear hK K; simp only [lset]
  have hHeld := hHe2; clear hHe2
  refine take_s (i := 9) rfl (by kernel_rfl) (by kernel_rfl) (by kernel_rfl) (fun _ _ _ h => h) (Or.inl ⟨by rfl, by (intro w hS; go_simp; try with_reducible rfl)⟩) rfl (by assumption) ?_; simp only [lset]
  refine take_s (i := 10) rfl (by kernel_rfl) (by kernel_rfl) (by kernel_rfl) (fun _ _ _ h => h) (Or.inl ⟨by rfl, by (intro w hS; go_simp; try with_reducible rfl)⟩) rfl (by assumption) ?_; simp only [lset]
  refine take_s (i := 11) rfl (by kernel_rfl) (by kernel_rfl) (by kernel_rfl) (fun _ _ _ h => h) (Or.inl ⟨by rfl, by (intro w hS; have q0 := cell_kept g2 hS; go_simp; try with_reducible rfl)⟩) rfl (by assumption) ?_; simp only [lset]
  refine take_s (i := 12) rfl (by kernel_rfl) (by kernel_rfl) (by kernel_rfl) (fun _ _ _ h => h) (Or.inl ⟨by rfl, by (intro w hS; go_simp; try with_reducible rfl)⟩) rfl (by assumption) ?_; simp only [lset]
  refine take_s (i := 13) rfl (by kernel_rfl) (by kernel_rfl) (by kernel_rfl) (fun _ _ _ h => h) (Or.inl ⟨by rfl, by (intro w hS; have q0 := cell_kept s5 hS; go_simp; try with_reducible rfl)⟩) rfl (by assumption) ?_; simp only [lset]
  refine take_s (i := 14) rfl (by kernel_rfl) (by kernel_rfl) (by kernel_rfl) (fun _ _ _ h => h) (Or.inl ⟨by rfl, by (intro w hS; go_simp; try with_reducible rfl)⟩) rfl (by assumption) ?_; simp only [lset]
  refine take_s (i := 15) rfl (by kernel_rfl) (by kernel_rfl) (by kernel_rfl) (fun _ _ _ h => h) (Or.inl ⟨by rfl, by (intro w hS; go_simp; try with_reducible rfl)⟩) rfl (by assumption) ?_; simp only [lset]
  refine take_s (i := 16) rfl (by kernel_rfl) (by kernel_rfl) (by kernel_rfl) (fun _ _ _ h => h) (Or.inl ⟨by rfl, by (intro w hS; have q0 := cell_kept m0 hS; have q1 := cell_kept m1 hS; have q2 := cell_kept m2 hS; have q3 := cell_kept m3 hS; have q4 := cell_kept m4 hS; have q5 := cell_kept m5 hS; have q6 := cell_kept m6 hS; go_simp; try with_reducible rfl)⟩) rfl (by assumption) ?_; simp only [lset]
  refine call_s (i := 17) (by kernel_rfl) rfl rfl (by rfl) (fun K hK => ?_)
  go_simp
  refine (C2.out _ hHeld).mono ?_
  rintro e w2 ⟨rfl, b2⟩
  have hHe2 := hHeld.trans (b2.mono hHeld.size)
  clear hHeld b2
  refine hK.out _ _ hHe2 ?_; clear hK K; simp only [lset]
  have hHeld := hHe2; clear hHe2
  refine take_s (i := 18) rfl (by kernel_rfl) (by kernel_rfl) (by kernel_rfl) (fun _ _ _ h => h) (Or.inl ⟨by rfl, by (intro w hS; go_simp; try with_reducible rfl)⟩) rfl (by assumption) ?_; simp only [lset]
  refine take_s (i := 19) rfl (by kernel_rfl) (by kernel_rfl) (by kernel_rfl) (fun _ _ _ h => h) (Or.inl ⟨by rfl, by (intro w hS; go_simp; try with_reducible rfl)⟩) rfl (by assumption) ?_; simp only [lset]
  refine wpAnyH_done (by kernel_rfl) ?_ _
  have HS := Lib.hid hHeld
  clear hHeld
  go_wp2
  go_ret
  exact ⟨rfl, HW.out.trans (HS.out.mono HW.out.size)⟩
/-- The cells of the i-th node of a slice. -/
theorem AtS.cells {pb : Nat → Prop} {W : World} {l : List Tn} {b o c i : Nat} {x : Tn} (h : AtS pb W l (.slice (some ⟨b, o, none⟩) l.length c)) (hx : l[i]? = some x) :
    ∃ A2 c2, AtS pb W x.kids (.slice A2 x.kids.length c2) ∧ W.cell? ⟨b, o + i * 7, none⟩ = some (.int .i64 x.datum.k) ∧ W.cell? ⟨b, o + i * 7 + 1, none⟩ = some (.string x.datum.op) ∧ W.cell? ⟨b, o + i * 7 + 2, none⟩ = some (.string x.datum.st) ∧ W.cell? ⟨b, o + i * 7 + 3, none⟩ = some (.float .f64 x.datum.nm) ∧ W.cell? ⟨b, o + i * 7 + 4, none⟩ = some (.bool x.datum.fl) ∧ W.cell? ⟨b, o + i * 7 + 5, none⟩ = some (.slice A2 x.kids.length c2) ∧ W.cell? ⟨b, o + i * 7 + 6, none⟩ = some (.int .i64 x.datum.ps) := by
  obtain ⟨b', o', s6, e1, -, -, hr, hk6⟩ := h.nth hx
  cases e1
  have hk7 := hk6
  obtain ⟨A6, c6, rfl, -, -⟩ := hk7
  exact ⟨A6, c6, hk6, hr 0 _ rfl, hr 1 _ rfl, hr 2 _ rfl, hr 3 _ rfl, hr 4 _ rfl, hr 5 _ rfl, hr 6 _ rfl⟩
theorem AtS.init {pb : Nat → Prop} {W : World} {b o c : Nat} : ∀ {l : List Tn} {n : Nat}, AtS pb W l (.slice (some ⟨b, o, none⟩) l.length c) → n ≤ l.length → AtS pb W (l.take n) (.slice (some ⟨b, o, none⟩) n c) := by
  intro l n h hn
  obtain ⟨A', c', e, hm, hL⟩ := h
  cases e
  have hl : (l.take n).length = n := by rw [List.length_take]; omega
  refine ⟨_, _, by rw [hl], ⟨by omega, by omega⟩, fun hne => ?_⟩
  obtain ⟨b', o', e2, hp, hA⟩ := hL (by rintro rfl; simp at hne)
  cases e2
  refine ⟨b, o, rfl, hp, ?_⟩
  clear hm hl hne hL hn
  induction l generalizing o n with
  | nil => rw [List.take_nil, AtL]; trivial
  | cons x l ih =>
    cases n with
    | zero => rw [List.take_zero, AtL]; trivial
    | succ n =>
      rw [List.take_succ_cons]
      rw [AtL] at hA ⊢
      exact ⟨hA.1, ih hA.2⟩
set_option maxRecDepth 100000 in
set_option maxHeartbeats 2000000 in
theorem afirst_any {nb : Nat} {W : World} (hn : nb ≤ W.heap.size) {s t : Value} {p q : TT} (hs : Tst nb W s p) (ht : Tst nb W t q) : Calls Tryz.prog 85 #[s, t] W fun e w' => ∃ v, e = .returned v ∧ Tst nb w' v (tFirst p q) ∧ Below W.heap.size W w' := by
  have HS := Lib.hid hs
  have HT := Lib.hid ht
  obtain ⟨f, cf, rfl, he, hf⟩ := hs
  obtain ⟨g, cg, rfl, hg, hh⟩ := ht
  go_enter Tryz.func85, Tryz.ntmps85
  go_wp2
  go_ret
  have B1 : Below W.heap.size W ((W.alloc (.cells #[.func (.func f) #[] cf] 61)).alloc (.cells #[.func (.func g) #[] cg] 61)) := (b1 _).alloc (by simp) _
  refine ⟨_, rfl, ⟨139, _, rfl, enters_of Tryz.func139 (by kernel_rfl) rfl, fun W2 x A c pb hW hA hF => ?_⟩, B1⟩
  have z : ((W.alloc (.cells #[.func (.func f) #[] cf] 61)).alloc (.cells #[.func (.func g) #[] cg] 61)).heap.size = W.heap.size + 2 := by simp
  have hWW : Abv nb W W2 := hW.after B1
  have c1 : W2.cell? ⟨W.heap.size, 0, none⟩ = some (.func (.func f) #[] cf) := (World.cell?_of_block (hW.block W.heap.size hn (by rw [z]; omega))).trans (by simp)
  have c2 : W2.cell? ⟨W.heap.size + 1, 0, none⟩ = some (.func (.func g) #[] cg) := (World.cell?_of_block (hW.block (W.heap.size + 1) (by omega) (by rw [z]; omega))).trans (by simp)
  unfold tFirst
  cases hk : x.kids with
  | nil => exact first1_none x.datum A c _ _ W2
  | cons y l =>
    rw [hk] at hA
    obtain ⟨_, _, e1, hm, hL⟩ := hA
    cases e1
    obtain ⟨b, o, rfl, hp, hAL⟩ := hL (by simp)
    have hA : AtS pb W2 (y :: l) (.slice (some ⟨b, o, none⟩) (y :: l).length c) := ⟨_, _, rfl, hm, fun _ => ⟨b, o, rfl, hp, hAL⟩⟩
    obtain ⟨A2, c2', hy, k0, k1, k2, k3, k4, k5, k6⟩ := hA.cells (i := 0) (x := y) rfl
    have hFy : Fit y := hF.kid (by rw [hk]; simp)
    have hlen : (y :: l).length = l.length + 1 := rfl
    have C1 := fun W' (hb : Below W2.heap.size W2 W') => hf W' y A2 c2' pb (hWW.trans (hb.mono hWW.size)) (hy.keep (fun b _ hl => hb.block b hl)) hFy
    dsimp only
    cases hpy : p y
    · rw [hpy] at C1
      exact first1_f x.datum b o _ c l.length y.datum A2 y.kids.length c2' _ _ f cf _ W2 he hlen (by omega) hm.1 c1 c2 k0 k1 k2 k3 k4 k5 k6 (Lib.hid C1)
    · rw [hpy] at C1
      refine first1_t x.datum b o _ c l.length y.datum A2 y.kids.length c2' _ _ f cf _ W2 he hlen (by omega) hm.1 c1 c2 k0 k1 k2 k3 k4 k5 k6 (Lib.hid C1) _ _ rfl (Lib.hid fun W' hb => ?_)
      refine aevery_any l _ _ _ q pb W' (Nat.le_trans hn (Nat.le_trans hWW.size hb.size)) (HT.out.abv (hWW.trans (hb.mono hWW.size))) ?_ (fun z hz => hF.kid (by rw [hk]; simp [hz]))
      by_cases h1 : c = 1
      · rw [if_pos h1]
        have h0 : l = [] := List.length_eq_zero_iff.1 (by omega)
        subst h0
        exact ⟨_, _, rfl, ⟨by unfold maxLen; simp, Nat.zero_le _⟩, fun h => absurd rfl h⟩
      · rw [if_neg h1]
        exact (hA.keep (fun b _ hl => hb.block b hl)).tail
set_option maxRecDepth 100000 in
set_option maxHeartbeats 2000000 in
theorem alast_any {nb : Nat} {W : World} (hn : nb ≤ W.heap.size) {s t : Value} {p q : TT} (hs : Tst nb W s p) (ht : Tst nb W t q) : Calls Tryz.prog 97 #[s, t] W fun e w' => ∃ v, e = .returned v ∧ Tst nb w' v (tLast p q) ∧ Below W.heap.size W w' := by
  have HS := Lib.hid hs
  have HT := Lib.hid ht
  obtain ⟨f, cf, rfl, he, hf⟩ := hs
  obtain ⟨g, cg, rfl, hg, hh⟩ := ht
  go_enter Tryz.func97, Tryz.ntmps97
  go_wp2
  go_ret
  have B1 : Below W.heap.size W ((W.alloc (.cells #[.func (.func f) #[] cf] 61)).alloc (.cells #[.func (.func g) #[] cg] 61)) := (b1 _).alloc (by simp) _
  refine ⟨_, rfl, ⟨150, _, rfl, enters_of Tryz.func150 (by kernel_rfl) rfl, fun W2 x A c pb hW hA hF => ?_⟩, B1⟩
  have z : ((W.alloc (.cells #[.func (.func f) #[] cf] 61)).alloc (.cells #[.func (.func g) #[] cg] 61)).heap.size = W.heap.size + 2 := by simp
  have hWW : Abv nb W W2 := hW.after B1
  have c1 : W2.cell? ⟨W.heap.size, 0, none⟩ = some (.func (.func f) #[] cf) := (World.cell?_of_block (hW.block W.heap.size hn (by rw [z]; omega))).trans (by simp)
  have c2 : W2.cell? ⟨W.heap.size + 1, 0, none⟩ = some (.func (.func g) #[] cg) := (World.cell?_of_block (hW.block (W.heap.size + 1) (by omega) (by rw [z]; omega))).trans (by simp)
  unfold tLast
  rcases List.eq_nil_or_concat x.kids with hk | ⟨l, y, hk⟩
  · rw [hk]
    exact last1_none x.datum A c _ _ W2
  · rw [List.concat_eq_append] at hk
    have hg1 : x.kids.getLast? = some y := by rw [hk]; simp
    have hd1 : x.kids.dropLast = l := by rw [hk]; simp
    have hlen : x.kids.length = l.length + 1 := by rw [hk]; simp
    rw [hg1, hd1]
    obtain ⟨_, _, e1, hm, hL⟩ := hA
    cases e1
    obtain ⟨b, o, rfl, hp, hAL⟩ := hL (by rw [hk]; simp)
    have hA : AtS pb W2 x.kids (.slice (some ⟨b, o, none⟩) x.kids.length c) := ⟨_, _, rfl, hm, fun _ => ⟨b, o, rfl, hp, hAL⟩⟩
    have hyi : x.kids[l.length]? = some y := by rw [hk]; simp
    obtain ⟨A2, c2', hy, k0, k1, k2, k3, k4, k5, k6⟩ := hA.cells hyi
    have hFy : Fit y := hF.kid (by rw [hk]; simp)
    have hin := hA.init (n := l.length) (by omega)
    rw [show x.kids.take l.length = l by rw [hk]; simp] at hin
    have C1 := fun W' (hb : Below W2.heap.size W2 W') => aevery_any l _ c _ p pb W' (Nat.le_trans hn (Nat.le_trans hWW.size hb.size)) (HS.out.abv (hWW.trans (hb.mono hWW.size))) (hin.keep (fun b _ hl => hb.block b hl)) (fun z hz => hF.kid (by rw [hk]; simp [hz]))
    have C2 := fun W' (hb : Below W2.heap.size W2 W') => hh W' y A2 c2' pb (hWW.trans (hb.mono hWW.size)) (hy.keep (fun b _ hl => hb.block b hl)) hFy
    dsimp only
    cases hpy : l.all p
    · rw [hpy] at C1
      exact last1_f x.datum b o _ c l.length _ _ g cg _ W2 hg hlen (by omega) hm.1 c1 c2 (Lib.hid C1)
    · rw [hpy] at C1
      exact last1_t x.datum b o _ c l.length y.datum A2 y.kids.length c2' _ _ g cg _ W2 hg hlen (by omega) hm.1 c1 c2 (Lib.hid C1) k0 k1 k2 k3 k4 k5 k6 _ (Lib.hid C2)
end Go.Proofs.YtfpmhahjemdodaaGreatDoor
