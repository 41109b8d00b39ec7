/-
  The program's turned of two descriptors.
-/
import Derived.Test.YtlkgijinckhkkaaQ2
namespace Go.Proofs.Ytlkgijinckhkkaa
open Go.RowKit
def turP (p q : Prp) : Prp := if ((!hasB q.ph 6 && !hasB q.ph 9) || hasB q.ph 6 == hasB p.ph 6) = true then p else { bareP (hasB q.ph 6) with pe := p.pe, pc := p.pc }
/-- The blocks of turned, and that of what comes to be. -/
structure S5 (w W : World) (p q : Prp) (X : Nat) (r : Prp) : Prop where
  k : Blk W w.heap.size p
  kr : Blk W (w.heap.size + 2) zPrp
  ko : Blk W X r
  k2 : Blk W (w.heap.size + 1) q
  lx : w.heap.size + 2 < X
  l : X < W.heap.size
  b : Below w.heap.size w W
theorem S5.new {w W W' : World} {p q r : Prp} (h : S3r w W p q zPrp) (g : W.alloc (.cells (celP r) 26) = W') : S5 w W' p q W.heap.size r := by
  obtain ⟨a, b, c⟩ := blk_new g
  have hl := h.l
  exact ⟨h.k.below b (by omega), h.kr.below b hl, a, h.k2.below b (by omega), hl, by omega, below_le h.b b⟩
theorem S5.row {w W : World} {p q r : Prp} {X : Nat} (h : S5 w W p q X r) (s : Prp) : S5 w (W.setRow X (celP s)) p q X s := by
  have h1 := h.lx
  exact ⟨(setRow_other _ _ _ _ (by omega)).trans h.k, (setRow_other _ _ _ _ (by omega)).trans h.kr, setRow_heap _ _ _ _ _ _ h.ko, (setRow_other _ _ _ _ (by omega)).trans h.k2, h.lx, by rw [setRow_size]; exact h.l, below_setRowK h.b (by omega) _⟩
theorem S5.drew {w W : World} {p q r : Prp} {X : Nat} (h : S5 w W p q X r) : S5 w W.drew p q X r := ⟨h.k, h.kr, h.ko, h.k2, h.lx, h.l, below_drewN' h.b 1⟩
theorem S5.res {w W : World} {p q r : Prp} {X : Nat} (h : S5 w W p q X r) (s : Prp) : Blk (W.setRow (w.heap.size + 2) (celP s)) (w.heap.size + 2) s ∧ Below w.heap.size w (W.setRow (w.heap.size + 2) (celP s)) :=
  ⟨setRow_heap _ _ _ _ _ _ h.kr, below_setRowK h.b (by omega) _⟩
set_option maxRecDepth 100000 in
set_option maxHeartbeats 4000000 in
theorem gturned_any (p q : Prp) (w : World) : Calls Try.prog 33 #[.agg (celP p), .agg (celP q)] w fun e w' => e = .returned (.agg (celP (turP p q))) ∧ Below w.heap.size w w' := by
  have CG := fun W => ggeneric_any q W
  have CA := fun W => gAccessor_any q W
  have CB := fun W => gAccessor_any p W
  have CR := fun W => gbare_any (hasB q.ph 6) W
  unfold turP
  obtain ⟨gn, e_gn⟩ : ∃ b, (!hasB q.ph 6 && !hasB q.ph 9) = b := ⟨_, rfl⟩
  obtain ⟨ha, e_ha⟩ : ∃ b, hasB q.ph 6 = b := ⟨_, rfl⟩
  obtain ⟨hb, e_hb⟩ : ∃ b, hasB p.ph 6 = b := ⟨_, rfl⟩
  rw [e_gn] at CG ⊢
  rw [e_ha] at CA CR ⊢
  rw [e_hb] at CB ⊢
  clear e_gn e_ha e_hb
  obtain ⟨B, e_B⟩ : ∃ r, bareP ha = r := ⟨_, rfl⟩
  rw [e_B] at CR ⊢
  clear e_B
  obtain ⟨t, e_t⟩ : ∃ b, (gn || ha == hb) = b := ⟨_, rfl⟩
  rw [e_t]
  have HT := Lib.hid e_t
  clear e_t
  unfold prpV at CG CA CB
  have CG := Lib.hid CG
  have CA := Lib.hid CA
  have CB := Lib.hid CB
  have CR := Lib.hid CR
  go_enter Try.func33, Try.ntmps33
  go_upto_region 1 with fail
  rw [celP_zero]
  obtain ⟨W1, hW1⟩ : ∃ W1, w.alloc (.cells (celP p) 26) = W1 := ⟨_, rfl⟩
  rw [hW1]
  obtain ⟨W2, hW2⟩ : ∃ W2, W1.alloc (.cells (celP q) 26) = W2 := ⟨_, rfl⟩
  rw [hW2]
  obtain ⟨W3, hW3⟩ : ∃ W3, W2.alloc (.cells (celP zPrp) 26) = W3 := ⟨_, rfl⟩
  have HS := Lib.hid (S3r.of (S3.new hW1 hW2 hW3))
  rw [hW3]
  clear hW1 hW2 hW3
  go_cut [14] (fun c wx => c = .bool t ∧ S3r w wx p q zPrp)
  case first =>
    refine wp_region_held_drew (S := fun wx => S3r w wx p q zPrp) (by kernel_rfl) (HS.out.drew) (fun hHeld => ?_)
    clear HS 
    refine take_s (i := 0) rfl (by kernel_rfl) (by kernel_rfl) (by kernel_rfl) (fun _ _ _ h => h) (Or.inl ⟨by rfl, fun w hS => ldP_run hS.k2 rfl rfl⟩) rfl (by assumption) ?_; simp only [lset]
    cases gn
    · skip
      refine call_s (i := 1) (by kernel_rfl) rfl rfl (by rfl) (fun K hK => ?_)
      go_simp
      with_reducible refine (CG.out _).mono ?_
      rintro e w2 ⟨rfl, b2⟩
      have hHe2 := hHeld.step b2
      clear hHeld b2
      refine hK.out _ _ hHe2 ?_; clear hK K; simp only [lset]
      have hHeld := hHe2; clear hHe2
      refine take_s (i := 2) rfl (by kernel_rfl) (by kernel_rfl) (by kernel_rfl) (fun _ _ _ h => h) (Or.inl ⟨by rfl, by (intro w hSw; go_simp; try with_reducible rfl)⟩) rfl (by assumption) ?_; simp only [lset]
      refine take_s (i := 3) rfl (by kernel_rfl) (by kernel_rfl) (by kernel_rfl) (fun _ _ _ h => h) (Or.inl ⟨by rfl, fun w hS => ldP_run hS.k2 rfl rfl⟩) rfl (by assumption) ?_; simp only [lset]
      refine take_s (i := 5) rfl (by kernel_rfl) (by kernel_rfl) (by kernel_rfl) (fun _ _ _ h => h) (Or.inl ⟨by rfl, fun w hS => ldP_run hS.k rfl rfl⟩) rfl (by assumption) ?_; simp only [lset]
      cases ha
      · skip
        refine call_s (i := 4) (by kernel_rfl) rfl rfl (by rfl) (fun K hK => ?_)
        go_simp
        with_reducible refine (CA.out _).mono ?_
        rintro e w2 ⟨rfl, b2⟩
        have hHe2 := hHeld.step b2
        clear hHeld b2
        refine hK.out _ _ hHe2 ?_; clear hK K; simp only [lset]
        have hHeld := hHe2; clear hHe2
        cases hb
        · skip
          refine call_s (i := 6) (by kernel_rfl) rfl rfl (by rfl) (fun K hK => ?_)
          go_simp
          with_reducible refine (CB.out _).mono ?_
          rintro e w2 ⟨rfl, b2⟩
          have hHe2 := hHeld.step b2
          clear hHeld b2
          refine hK.out _ _ hHe2 ?_; clear hK K; simp only [lset]
          have hHeld := hHe2; clear hHe2
          refine take_s (i := 7) rfl (by kernel_rfl) (by kernel_rfl) (by kernel_rfl) (fun _ _ _ h => h) (Or.inl ⟨by rfl, by (intro w hSw; go_simp; try with_reducible rfl)⟩) rfl (by assumption) ?_; simp only [lset]
          refine take_s (i := 8) rfl (by kernel_rfl) (by kernel_rfl) (by kernel_rfl) (fun _ _ _ h => h) (Or.inl ⟨by rfl, by (intro w hSw; go_simp; try with_reducible rfl)⟩) rfl (by assumption) ?_; simp only [lset]
          refine wpAnyH_done (by kernel_rfl) ?_ _
          have HS := Lib.hid hHeld
          clear hHeld
          go_wp2
          go_meet
          case rel => exact ⟨by rw [← HT.out]; rfl, HS.out⟩
        · skip
          refine call_s (i := 6) (by kernel_rfl) rfl rfl (by rfl) (fun K hK => ?_)
          go_simp
          with_reducible refine (CB.out _).mono ?_
          rintro e w2 ⟨rfl, b2⟩
          have hHe2 := hHeld.step b2
          clear hHeld b2
          refine hK.out _ _ hHe2 ?_; clear hK K; simp only [lset]
          have hHeld := hHe2; clear hHe2
          refine take_s (i := 7) rfl (by kernel_rfl) (by kernel_rfl) (by kernel_rfl) (fun _ _ _ h => h) (Or.inl ⟨by rfl, by (intro w hSw; go_simp; try with_reducible rfl)⟩) rfl (by assumption) ?_; simp only [lset]
          refine take_s (i := 8) rfl (by kernel_rfl) (by kernel_rfl) (by kernel_rfl) (fun _ _ _ h => h) (Or.inl ⟨by rfl, by (intro w hSw; go_simp; try with_reducible rfl)⟩) rfl (by assumption) ?_; simp only [lset]
          refine wpAnyH_done (by kernel_rfl) ?_ _
          have HS := Lib.hid hHeld
          clear hHeld
          go_wp2
          go_meet
          case rel => exact ⟨by rw [← HT.out]; rfl, HS.out⟩
      · skip
        refine call_s (i := 4) (by kernel_rfl) rfl rfl (by rfl) (fun K hK => ?_)
        go_simp
        with_reducible refine (CA.out _).mono ?_
        rintro e w2 ⟨rfl, b2⟩
        have hHe2 := hHeld.step b2
        clear hHeld b2
        refine hK.out _ _ hHe2 ?_; clear hK K; simp only [lset]
        have hHeld := hHe2; clear hHe2
        cases hb
        · skip
          refine call_s (i := 6) (by kernel_rfl) rfl rfl (by rfl) (fun K hK => ?_)
          go_simp
          with_reducible refine (CB.out _).mono ?_
          rintro e w2 ⟨rfl, b2⟩
          have hHe2 := hHeld.step b2
          clear hHeld b2
          refine hK.out _ _ hHe2 ?_; clear hK K; simp only [lset]
          have hHeld := hHe2; clear hHe2
          refine take_s (i := 7) rfl (by kernel_rfl) (by kernel_rfl) (by kernel_rfl) (fun _ _ _ h => h) (Or.inl ⟨by rfl, by (intro w hSw; go_simp; try with_reducible rfl)⟩) rfl (by assumption) ?_; simp only [lset]
          refine take_s (i := 8) rfl (by kernel_rfl) (by kernel_rfl) (by kernel_rfl) (fun _ _ _ h => h) (Or.inl ⟨by rfl, by (intro w hSw; go_simp; try with_reducible rfl)⟩) rfl (by assumption) ?_; simp only [lset]
          refine wpAnyH_done (by kernel_rfl) ?_ _
          have HS := Lib.hid hHeld
          clear hHeld
          go_wp2
          go_meet
          case rel => exact ⟨by rw [← HT.out]; rfl, HS.out⟩
        · skip
          refine call_s (i := 6) (by kernel_rfl) rfl rfl (by rfl) (fun K hK => ?_)
          go_simp
          with_reducible refine (CB.out _).mono ?_
          rintro e w2 ⟨rfl, b2⟩
          have hHe2 := hHeld.step b2
          clear hHeld b2
          refine hK.out _ _ hHe2 ?_; clear hK K; simp only [lset]
          have hHeld := hHe2; clear hHe2
          refine take_s (i := 7) rfl (by kernel_rfl) (by kernel_rfl) (by kernel_rfl) (fun _ _ _ h => h) (Or.inl ⟨by rfl, by (intro w hSw; go_simp; try with_reducible rfl)⟩) rfl (by assumption) ?_; simp only [lset]
          refine take_s (i := 8) rfl (by kernel_rfl) (by kernel_rfl) (by kernel_rfl) (fun _ _ _ h => h) (Or.inl ⟨by rfl, by (intro w hSw; go_simp; try with_reducible rfl)⟩) rfl (by assumption) ?_; simp only [lset]
          refine wpAnyH_done (by kernel_rfl) ?_ _
          have HS := Lib.hid hHeld
          clear hHeld
          go_wp2
          go_meet
          case rel => exact ⟨by rw [← HT.out]; rfl, HS.out⟩
    · skip
      refine call_s (i := 1) (by kernel_rfl) rfl rfl (by rfl) (fun K hK => ?_)
      go_simp
      with_reducible refine (CG.out _).mono ?_
      rintro e w2 ⟨rfl, b2⟩
      have hHe2 := hHeld.step b2
      clear hHeld b2
      refine hK.out _ _ hHe2 ?_; clear hK K; simp only [lset]
      have hHeld := hHe2; clear hHe2
      refine take_s (i := 2) rfl (by kernel_rfl) (by kernel_rfl) (by kernel_rfl) (fun _ _ _ h => h) (Or.inl ⟨by rfl, by (intro w hSw; go_simp; try with_reducible rfl)⟩) rfl (by assumption) ?_; simp only [lset]
      refine take_s (i := 3) rfl (by kernel_rfl) (by kernel_rfl) (by kernel_rfl) (fun _ _ _ h => h) (Or.inr ⟨by rfl, rfl⟩) rfl (by assumption) ?_; simp only [lset]
      refine take_s (i := 4) rfl (by kernel_rfl) (by kernel_rfl) (by kernel_rfl) (fun _ _ _ h => h) (Or.inr ⟨by rfl, rfl⟩) rfl (by assumption) ?_; simp only [lset]
      refine take_s (i := 5) rfl (by kernel_rfl) (by kernel_rfl) (by kernel_rfl) (fun _ _ _ h => h) (Or.inr ⟨by rfl, rfl⟩) rfl (by assumption) ?_; simp only [lset]
      refine take_s (i := 6) rfl (by kernel_rfl) (by kernel_rfl) (by kernel_rfl) (fun _ _ _ h => h) (Or.inr ⟨by rfl, rfl⟩) rfl (by assumption) ?_; simp only [lset]
      refine take_s (i := 7) rfl (by kernel_rfl) (by kernel_rfl) (by kernel_rfl) (fun _ _ _ h => h) (Or.inr ⟨by rfl, rfl⟩) rfl (by assumption) ?_; simp only [lset]
      refine take_s (i := 8) rfl (by kernel_rfl) (by kernel_rfl) (by kernel_rfl) (fun _ _ _ h => h) (Or.inl ⟨by rfl, by (intro w hSw; go_simp; try with_reducible rfl)⟩) rfl (by assumption) ?_; simp only [lset]
      refine wpAnyH_done (by kernel_rfl) ?_ _
      have HS := Lib.hid hHeld
      clear hHeld
      go_wp2
      go_meet
      case rel => exact ⟨by rw [← HT.out]; rfl, HS.out⟩
  case rest =>
  clear HS CG CB
  obtain ⟨rfl, hs⟩ := hcut
  have HS := Lib.hid hs
  clear hs
  cases t
  case true =>
    have HR := Lib.hid (HS.out.row3 p)
    go_wp2_with (first | (refine ldP (k := 15) HS.out.k rfl (by kernel_rfl) rfl rfl ?_) | (refine stP (p := p) HS.out.kr rfl rfl rfl rfl rfl ?_))
    refine prR HR.out.kr rfl rfl rfl ⟨rfl, HR.out.b⟩
  case false =>
    go_upto_region 3 with fail
    go_wp2_with (refine ldP (k := 16) HS.out.k2 rfl (by kernel_rfl) rfl rfl ?_)
    with_reducible refine (CA.out _).mono ?_
    rintro e w2 ⟨rfl, b2⟩
    have HX := HS; clear HS
    have HS := Lib.hid (HX.out.step b2)
    clear HX b2
    go_wp2_with fail
    with_reducible refine (CR.out _).mono ?_
    rintro e w3 ⟨rfl, b3⟩
    have HX := HS; clear HS
    have HS := Lib.hid (HX.out.step b3)
    clear HX b3
    go_upto_region 4 with (refine stP (p := B) (old := zPrp) (show Blk _ w3.heap.size zPrp from heap_alloc_last w3 _) rfl rfl rfl rfl rfl ?_; rw [World.setRow_alloc_new])
    obtain ⟨W5, hW5⟩ : ∃ W, w3.alloc (.cells (celP B) 26) = W := ⟨_, rfl⟩
    have HN := Lib.hid (S5.new HS.out hW5)
    rw [hW5]
    clear hW5 HS
    obtain ⟨X, hX⟩ : ∃ X, w3.heap.size = X := ⟨_, rfl⟩
    rw [hX] at HN ⊢
    clear hX
    have a17 := HN.out.k.cell (k := 17) (v := .bool p.pe) rfl
    have a18 := HN.out.k.cell (k := 18) (v := .bool p.pc) rfl
    have x17 := HN.out.ko.cell (k := 17) (v := .bool B.pe) rfl
    have x18 := HN.out.ko.cell (k := 18) (v := .bool B.pc) rfl
    have z17 := HN.out.ko.frozen 17
    have z18 := HN.out.ko.frozen 18
    have hne : w.heap.size ≠ X := by have := HN.out.lx; omega
    have hne2 : ¬ w.heap.size = X := hne
    obtain ⟨R, hR⟩ : ∃ r : Prp, { B with pe := p.pe, pc := p.pc } = r := ⟨_, rfl⟩
    have hW : (W5.setCell ⟨X, 17, none⟩ (.bool p.pe)).setCell ⟨X, 18, none⟩ (.bool p.pc) = W5.setRow X (celP R) := by
      rw [setCell_eq_setRow W5 X 17 _ _ _ _ HN.out.ko, setCell_eq_setRow _ X 18 _ _ _ _ (setRow_heap _ _ _ _ _ _ HN.out.ko), setRow_setRow, ← hR]
      rfl
    have HY := Lib.hid (HN.out.row R).drew
    have HR := Lib.hid hR
    have HW := Lib.hid hW
    clear hR hW
    go_region
    rw [HW.out]
    clear HW HN a17 a18 x17 x18 z17 z18 hne hne2
    generalize (W5.setRow X (celP R)).drew = W6 at *
    have HZ := Lib.hid (HY.out.res R)
    go_wp2_with (first | (refine ldP (k := 25) HY.out.ko rfl (by kernel_rfl) rfl rfl ?_) | (refine stP (p := R) HY.out.kr rfl rfl rfl rfl rfl ?_))
    refine prR HZ.out.1 rfl rfl rfl ⟨by rw [HR.out]; rfl, HZ.out.2⟩
end Go.Proofs.Ytlkgijinckhkkaa
