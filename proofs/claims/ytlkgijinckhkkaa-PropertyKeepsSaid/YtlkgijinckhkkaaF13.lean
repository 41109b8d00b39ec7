/-
  The law of properties: changes.
-/
import Derived.Test.YtlkgijinckhkkaaF12
namespace Go.Proofs.Ytlkgijinckhkkaa
open Go.RowKit
theorem chgE_form (p q : Prp) : chgE p q = .returned (.tuple #[.agg (celP (if okP p q = true then chgP p q else zPrp)), .bool (okP p q)]) := by
  unfold chgE
  split
  · rename_i h
    rw [h]; rfl
  · rename_i h
    rw [Bool.not_eq_true] at h
    rw [h]; rfl
/-- Two parameters' blocks and others, each a descriptor's. -/
structure SL (w W : World) (p q : Prp) (l : List (Nat × Prp)) : Prop where
  s : S2 w W p q
  f : ∀ x ∈ l, Blk W x.1 x.2 ∧ x.1 < W.heap.size
theorem SL.step {w W W' : World} {p q : Prp} {l : List (Nat × Prp)} (h : SL w W p q l) (hb : Below W.heap.size W W') : SL w W' p q l :=
  ⟨h.s.step hb, fun x hx => ⟨(h.f x hx).1.below hb (h.f x hx).2, Nat.lt_of_lt_of_le (h.f x hx).2 hb.size⟩⟩
theorem SL.drew {w W : World} {p q : Prp} {l : List (Nat × Prp)} (h : SL w W p q l) : SL w W.drew p q l := ⟨h.s.drew, h.f⟩
theorem SL.push {w W W' : World} {p q r : Prp} {l : List (Nat × Prp)} (h : SL w W p q l) (g : W.alloc (.cells (celP r) 26) = W') : SL w W' p q ((W.heap.size, r) :: l) := by
  obtain ⟨a, b, c⟩ := blk_new g
  have hs := h.step b
  refine ⟨hs.s, fun x hx => ?_⟩
  rcases List.mem_cons.1 hx with rfl | hx
  · exact ⟨a, by show W.heap.size < _; omega⟩
  · exact hs.f x hx
theorem SL.blk {w W : World} {p q r : Prp} {X : Nat} {l : List (Nat × Prp)} (h : SL w W p q l) (hx : (X, r) ∈ l) : Blk W X r := (h.f _ hx).1
theorem S2.sl {w W : World} {p q : Prp} (h : S2 w W p q) : SL w W p q [] := ⟨h, fun x hx => by cases hx⟩
theorem SL.cs {w W : World} {p q : Prp} {l : List (Nat × Prp)} (h : SL w W p q l) : W.cell? ⟨w.heap.size, 16, none⟩ = some (.bool p.pw) ∧ W.cell? ⟨w.heap.size, 18, none⟩ = some (.bool p.pc) := ⟨h.s.k.cell rfl, h.s.k.cell rfl⟩
set_option maxRecDepth 100000 in
set_option maxHeartbeats 2000000 in
theorem PropertyChanges_una (p q : Prp) (w : World) (hp : fullB p = false) : Calls Try.prog 4 #[prpV p, prpV q] w fun e w' => e = .returned (.bool true) ∧ Below w.heap.size w w' := by
  have CI := fun W => hIsFull_any p W
  have CM := fun W => hMay_any q W
  have CW := Lib.hid (fun W => awake12_any W)
  rw [hp] at CI
  clear CM
  have e_p := show prpV p = .agg (celP p) from rfl
  have e_q := show prpV q = .agg (celP q) from rfl
  rw [e_p] at CI ⊢
  rw [e_q]
  clear e_p e_q
  have CI := Lib.hid CI

  go_enter Try.func4, Try.ntmps4
  go_upto_region 1 with fail
  obtain ⟨W1, hW1⟩ : ∃ W1, w.alloc (.cells (celP p) 26) = W1 := ⟨_, rfl⟩
  rw [hW1]
  obtain ⟨W2, hW2⟩ : ∃ W2, W1.alloc (.cells (celP q) 26) = W2 := ⟨_, rfl⟩
  have HS := Lib.hid (S2.new hW1 hW2).sl
  rw [hW2]
  clear hW1 hW2
  go_wp2_with (first | (refine ldP (k := 9) HS.out.s.k rfl (by kernel_rfl) rfl rfl ?_))
  with_reducible refine (CI.out _).mono ?_
  rintro e w2 ⟨rfl, b2⟩
  have HT := HS; clear HS
  have HS := Lib.hid (HT.out.step b2)
  clear HT b2
  go_wp2_with fail
  with_reducible refine (CW.out _).mono ?_
  rintro e w2 ⟨rfl, b2⟩
  have HT := HS; clear HS
  have HS := Lib.hid (HT.out.step b2)
  clear HT b2
  go_wp2
  go_ret
  exact ⟨rfl, HS.out.s.b⟩
set_option maxRecDepth 100000 in
set_option maxHeartbeats 2000000 in
theorem PropertyChanges_unb (p q : Prp) (w : World) (hp : fullB p = true) (hq : mayP q = false) : Calls Try.prog 4 #[prpV p, prpV q] w fun e w' => e = .returned (.bool true) ∧ Below w.heap.size w w' := by
  have CI := fun W => hIsFull_any p W
  have CM := fun W => hMay_any q W
  have CW := Lib.hid (fun W => awake12_any W)
  rw [hp] at CI
  rw [hq] at CM
  have e_p := show prpV p = .agg (celP p) from rfl
  have e_q := show prpV q = .agg (celP q) from rfl
  rw [e_p] at CI ⊢
  rw [e_q] at CM ⊢
  clear e_p e_q
  have CI := Lib.hid CI
  have CM := Lib.hid CM
  go_enter Try.func4, Try.ntmps4
  go_upto_region 1 with fail
  obtain ⟨W1, hW1⟩ : ∃ W1, w.alloc (.cells (celP p) 26) = W1 := ⟨_, rfl⟩
  rw [hW1]
  obtain ⟨W2, hW2⟩ : ∃ W2, W1.alloc (.cells (celP q) 26) = W2 := ⟨_, rfl⟩
  have HS := Lib.hid (S2.new hW1 hW2).sl
  rw [hW2]
  clear hW1 hW2
  go_wp2_with (first | (refine ldP (k := 9) HS.out.s.k rfl (by kernel_rfl) rfl rfl ?_))
  with_reducible refine (CI.out _).mono ?_
  rintro e w2 ⟨rfl, b2⟩
  have HT := HS; clear HS
  have HS := Lib.hid (HT.out.step b2)
  clear HT b2
  go_wp2_with (first | (refine ldP (k := 13) HS.out.s.k2 rfl (by kernel_rfl) rfl rfl ?_))
  with_reducible refine (CM.out _).mono ?_
  rintro e w2 ⟨rfl, b2⟩
  have HT := HS; clear HS
  have HS := Lib.hid (HT.out.step b2)
  clear HT b2
  go_wp2_with fail
  with_reducible refine (CW.out _).mono ?_
  rintro e w2 ⟨rfl, b2⟩
  have HT := HS; clear HS
  have HS := Lib.hid (HT.out.step b2)
  clear HT b2
  go_wp2
  go_ret
  exact ⟨rfl, HS.out.s.b⟩
set_option maxRecDepth 100000 in
set_option maxHeartbeats 2000000 in
theorem changes12_may (p q : Prp) (w : World) (np : NumP p) (nq : NumP q) (hp : fullB p = true) (hq : mayP q = true) : Calls Try.prog 4 #[prpV p, prpV q] w fun e w' => e = .returned (.bool true) ∧ Below w.heap.size w w' := by
  have CI := fun W => hIsFull_any p W
  have CM := fun W => hMay_any q W
  have CW := Lib.hid (fun W => awake12_any W)
  have EC := fun W => gChange_any p q W hp hq np nq
  have FC := fun W => hChange_any p q W np.v np.g np.t nq.v nq.g nq.t
  have ES := fun W => gSame_any p q W
  have FS := fun W => hSame_any p q W
  rw [hp] at CI
  rw [hq] at CM
  rw [chgE_form] at EC FC
  obtain ⟨a, ha⟩ : ∃ a, (if okP p q = true then chgP p q else zPrp) = a := ⟨_, rfl⟩
  obtain ⟨b, hb⟩ : ∃ a, okP p q = a := ⟨_, rfl⟩
  obtain ⟨s, hs⟩ : ∃ a, samePB p q = a := ⟨_, rfl⟩
  rw [ha, hb] at EC FC
  rw [hs] at ES FS
  clear ha hb hs np nq hp hq
  have SA := fun W => hSame_any a a W
  rw [sameP_self] at SA
  have e_a := show prpV a = .agg (celP a) from rfl
  have e_p := show prpV p = .agg (celP p) from rfl
  have e_q := show prpV q = .agg (celP q) from rfl
  rw [e_a] at SA
  rw [e_p] at CI EC FC ES FS ⊢
  rw [e_q] at CM EC FC ES FS ⊢
  clear e_a e_p e_q
  have CI := Lib.hid CI
  have CM := Lib.hid CM
  have EC := Lib.hid EC
  have FC := Lib.hid FC
  have ES := Lib.hid ES
  have FS := Lib.hid FS
  have SA := Lib.hid SA
  go_enter Try.func4, Try.ntmps4
  go_upto_region 1 with fail
  obtain ⟨W1, hW1⟩ : ∃ W1, w.alloc (.cells (celP p) 26) = W1 := ⟨_, rfl⟩
  rw [hW1]
  obtain ⟨W2, hW2⟩ : ∃ W2, W1.alloc (.cells (celP q) 26) = W2 := ⟨_, rfl⟩
  have HS := Lib.hid (S2.new hW1 hW2).sl
  rw [hW2]
  clear hW1 hW2
  go_wp2_with (first | (refine ldP (k := 9) HS.out.s.k rfl (by kernel_rfl) rfl rfl ?_))
  with_reducible refine (CI.out _).mono ?_
  rintro e w2 ⟨rfl, b2⟩
  have HT := HS; clear HS
  have HS := Lib.hid (HT.out.step b2)
  clear HT b2
  go_wp2_with (first | (refine ldP (k := 13) HS.out.s.k2 rfl (by kernel_rfl) rfl rfl ?_))
  with_reducible refine (CM.out _).mono ?_
  rintro e w2 ⟨rfl, b2⟩
  have HT := HS; clear HS
  have HS := Lib.hid (HT.out.step b2)
  clear HT b2
  go_wp2_with (first | (refine ldP (k := 19) HS.out.s.k rfl (by kernel_rfl) rfl rfl ?_) | (refine ldP (k := 20) HS.out.s.k2 rfl (by kernel_rfl) rfl rfl ?_))
  with_reducible refine (EC.out _).mono ?_
  rintro e w3 ⟨rfl, b2⟩
  have HT := HS; clear HS
  have HS := Lib.hid (HT.out.step b2)
  clear HT b2
  go_upto_region 4 with (refine stP (p := a) (old := zPrp) (show Blk _ w3.heap.size zPrp from heap_alloc_last w3 _) rfl rfl rfl rfl rfl ?_; rw [World.setRow_alloc_new])
  obtain ⟨WX, hWX⟩ : ∃ W, w3.alloc (.cells (celP a) 26) = W := ⟨_, rfl⟩
  have HT := HS; clear HS
  have HS := Lib.hid (HT.out.push hWX)
  rw [hWX]
  clear hWX HT
  obtain ⟨X, hX⟩ : ∃ X, w3.heap.size = X := ⟨_, rfl⟩
  rw [hX] at HS ⊢
  clear hX
  go_wp2_with (first | (refine ldP (k := 25) HS.out.s.k rfl (by kernel_rfl) rfl rfl ?_) | (refine ldP (k := 26) HS.out.s.k2 rfl (by kernel_rfl) rfl rfl ?_))
  with_reducible refine (FC.out _).mono ?_
  rintro e w4 ⟨rfl, b2⟩
  have HT := HS; clear HS
  have HS := Lib.hid (HT.out.step b2)
  clear HT b2
  go_upto_region 5 with (refine stP (p := a) (old := zPrp) (show Blk _ w4.heap.size zPrp from heap_alloc_last w4 _) rfl rfl rfl rfl rfl ?_; rw [World.setRow_alloc_new])
  obtain ⟨WY, hWY⟩ : ∃ W, w4.alloc (.cells (celP a) 26) = W := ⟨_, rfl⟩
  have HT := HS; clear HS
  have HS := Lib.hid (HT.out.push hWY)
  rw [hWY]
  clear hWY HT
  obtain ⟨Y, hY⟩ : ∃ X, w4.heap.size = X := ⟨_, rfl⟩
  rw [hY] at HS ⊢
  clear hY
  refine wp_region_held_drew (S := fun wx => SL w wx p q [(Y, a), (X, a)]) (by kernel_rfl) (HS.out.drew) (fun hHeld => ?_)
  clear HS 
  refine take_s (i := 0) rfl (by kernel_rfl) (by kernel_rfl) (by kernel_rfl) (fun _ _ _ h => h) (Or.inl ⟨by rfl, fun w hS => ldP_run (hS.blk (X := X) (r := a) (by simp)) rfl rfl⟩) rfl (by assumption) ?_; simp only [lset]
  refine take_s (i := 1) rfl (by kernel_rfl) (by kernel_rfl) (by kernel_rfl) (fun _ _ _ h => h) (Or.inl ⟨by rfl, fun w hS => ldP_run (hS.blk (X := Y) (r := a) (by simp)) rfl rfl⟩) rfl (by assumption) ?_; simp only [lset]
  refine call_s (i := 2) (by kernel_rfl) rfl rfl (by rfl) (fun K hK => ?_)
  go_simp
  with_reducible refine (SA.out _).mono ?_
  rintro e w2 ⟨rfl, b2⟩
  have hHe2 := hHeld.step b2
  clear hHeld b2
  refine hK.out _ _ hHe2 ?_; clear hK K; simp only [lset]
  have hHeld := hHe2; clear hHe2
  refine take_s (i := 3) rfl (by kernel_rfl) (by kernel_rfl) (by kernel_rfl) (fun _ _ _ h => h) (Or.inl ⟨by rfl, by (intro w hSw; go_simp; try with_reducible rfl)⟩) rfl (by assumption) ?_; simp only [lset]
  refine take_s (i := 4) rfl (by kernel_rfl) (by kernel_rfl) (by kernel_rfl) (fun _ _ _ h => h) (Or.inl ⟨by rfl, by (intro w hSw; go_simp; try with_reducible rfl)⟩) rfl (by assumption) ?_; simp only [lset]
  refine take_s (i := 5) rfl (by kernel_rfl) (by kernel_rfl) (by kernel_rfl) (fun _ _ _ h => h) (Or.inl ⟨by rfl, by (intro w hSw; go_simp; try with_reducible rfl)⟩) rfl (by assumption) ?_; simp only [lset]
  refine take_s (i := 6) rfl (by kernel_rfl) (by kernel_rfl) (by kernel_rfl) (fun _ _ _ h => h) (Or.inl ⟨by rfl, by (intro w hSw; go_simp; try with_reducible rfl)⟩) rfl (by assumption) ?_; simp only [lset]
  refine take_s (i := 7) rfl (by kernel_rfl) (by kernel_rfl) (by kernel_rfl) (fun _ _ _ h => h) (Or.inl ⟨by rfl, by (intro w hSw; go_simp; try with_reducible rfl)⟩) rfl (by assumption) ?_; simp only [lset]
  refine take_s (i := 8) rfl (by kernel_rfl) (by kernel_rfl) (by kernel_rfl) (fun _ _ _ h => h) (Or.inl ⟨by rfl, by (intro w hSw; go_simp; try with_reducible rfl)⟩) rfl (by assumption) ?_; simp only [lset]
  refine take_s (i := 9) rfl (by kernel_rfl) (by kernel_rfl) (by kernel_rfl) (fun _ _ _ h => h) (Or.inl ⟨by rfl, fun w hS => ldP_run hS.s.k rfl rfl⟩) rfl (by assumption) ?_; simp only [lset]
  refine take_s (i := 10) rfl (by kernel_rfl) (by kernel_rfl) (by kernel_rfl) (fun _ _ _ h => h) (Or.inl ⟨by rfl, fun w hS => ldP_run hS.s.k2 rfl rfl⟩) rfl (by assumption) ?_; simp only [lset]
  refine take_s (i := 12) rfl (by kernel_rfl) (by kernel_rfl) (by kernel_rfl) (fun _ _ _ h => h) (Or.inl ⟨by rfl, fun w hS => ldP_run hS.s.k rfl rfl⟩) rfl (by assumption) ?_; simp only [lset]
  refine take_s (i := 13) rfl (by kernel_rfl) (by kernel_rfl) (by kernel_rfl) (fun _ _ _ h => h) (Or.inl ⟨by rfl, fun w hS => ldP_run hS.s.k2 rfl rfl⟩) rfl (by assumption) ?_; simp only [lset]
  refine call_s (i := 11) (by kernel_rfl) rfl rfl (by rfl) (fun K hK => ?_)
  go_simp
  with_reducible refine (ES.out _).mono ?_
  rintro e w2 ⟨rfl, b2⟩
  have hHe2 := hHeld.step b2
  clear hHeld b2
  refine hK.out _ _ hHe2 ?_; clear hK K; simp only [lset]
  have hHeld := hHe2; clear hHe2
  refine call_s (i := 14) (by kernel_rfl) rfl rfl (by rfl) (fun K hK => ?_)
  go_simp
  with_reducible refine (FS.out _).mono ?_
  rintro e w2 ⟨rfl, b2⟩
  have hHe2 := hHeld.step b2
  clear hHeld b2
  refine hK.out _ _ hHe2 ?_; clear hK K; simp only [lset]
  have hHeld := hHe2; clear hHe2
  refine take_s (i := 15) rfl (by kernel_rfl) (by kernel_rfl) (by kernel_rfl) (fun _ _ _ h => h) (Or.inl ⟨by rfl, by (intro w hSw; go_simp; try with_reducible rfl)⟩) rfl (by assumption) ?_; simp only [lset]
  refine take_s (i := 16) rfl (by kernel_rfl) (by kernel_rfl) (by kernel_rfl) (fun _ _ _ h => h) (Or.inl ⟨by rfl, by (intro w hSw; go_simp; try with_reducible rfl)⟩) rfl (by assumption) ?_; simp only [lset]
  refine take_s (i := 17) rfl (by kernel_rfl) (by kernel_rfl) (by kernel_rfl) (fun _ _ _ h => h) (Or.inl ⟨by rfl, by (intro w hSw; go_simp; try with_reducible rfl)⟩) rfl (by assumption) ?_; simp only [lset]
  refine call_s (i := 18) (by kernel_rfl) rfl rfl (by rfl) (fun K hK => ?_)
  go_simp
  with_reducible refine (CW.out _).mono ?_
  rintro e w2 ⟨rfl, b2⟩
  have hHe2 := hHeld.step b2
  clear hHeld b2
  refine hK.out _ _ hHe2 ?_; clear hK K; simp only [lset]
  have hHeld := hHe2; clear hHe2
  refine take_s (i := 19) rfl (by kernel_rfl) (by kernel_rfl) (by kernel_rfl) (fun _ _ _ h => h) (Or.inl ⟨by rfl, by (intro w hSw; go_simp; try with_reducible rfl)⟩) rfl (by assumption) ?_; simp only [lset]
  refine take_s (i := 20) rfl (by kernel_rfl) (by kernel_rfl) (by kernel_rfl) (fun _ _ _ h => h) (Or.inl ⟨by rfl, by (intro w hSw; go_simp; try with_reducible rfl)⟩) rfl (by assumption) ?_; simp only [lset]
  refine wpAnyH_done (by kernel_rfl) ?_ _
  have HS := Lib.hid hHeld
  clear hHeld
  go_wp2
  go_ret
  exact ⟨rfl, HS.out.s.b⟩
theorem changes12_any (p q : Prp) (w : World) (np : NumP p) (nq : NumP q) : Calls Try.prog 4 #[prpV p, prpV q] w fun e w' => e = .returned (.bool true) ∧ Below w.heap.size w w' := by
  cases hp : fullB p
  · exact PropertyChanges_una p q w hp
  · cases hq : mayP q
    · exact PropertyChanges_unb p q w hp hq
    · exact changes12_may p q w np nq hp hq
end Go.Proofs.Ytlkgijinckhkkaa
