/-
  The law of properties: checks.
-/
import Derived.Test.YtlkgijinckhkkaaF11
namespace Go.Proofs.Ytlkgijinckhkkaa
open Go.RowKit
set_option maxRecDepth 100000 in
set_option maxHeartbeats 2000000 in
theorem checks12_un (p : Prp) (w : World) (sp : SzP p) (hm : mayP p = false) : Calls Try.prog 3 #[prpV p] w fun e w' => e = .returned (.bool true) ∧ Below w.heap.size w w' := by
  have EC := fun W => gCheck_any p W sp
  have FC := fun W => hCheck_any p W
  have MM := fun W => hMay_any p W
  have CW := Lib.hid (fun W => awake12_any W)
  obtain ⟨c, hc⟩ : ∃ c : Int, (if mayP p = true then 0 else 120) = c := ⟨_, rfl⟩
  rw [hc] at EC FC
  rw [hm] at MM
  clear hc sp
  clear hm
  have e_p := show prpV p = .agg (celP p) from rfl
  rw [e_p] at EC FC MM ⊢
  clear e_p
  have EC := Lib.hid EC
  have FC := Lib.hid FC
  have MM := Lib.hid MM
  go_enter Try.func3, Try.ntmps3
  go_upto_region 1 with fail
  obtain ⟨W1, hW1⟩ : ∃ W1, w.alloc (.cells (celP p) 26) = W1 := ⟨_, rfl⟩
  have HS := Lib.hid (S1.new hW1)
  obtain ⟨c0, c16, c17, c18⟩ := HS.out.cs
  rw [hW1]
  clear hW1
  refine wp_region_held_drew (S := fun wx => S1 w wx p) (by kernel_rfl) (HS.out.drew) (fun hHeld => ?_)
  clear HS c0 c16 c17 c18
  refine take_s (i := 0) rfl (by kernel_rfl) (by kernel_rfl) (by kernel_rfl) (fun _ _ _ h => h) (Or.inl ⟨by rfl, fun w hS => ldP_run hS.k rfl rfl⟩) rfl (by assumption) ?_; simp only [lset]
  refine take_s (i := 2) rfl (by kernel_rfl) (by kernel_rfl) (by kernel_rfl) (fun _ _ _ h => h) (Or.inl ⟨by rfl, fun w hS => ldP_run hS.k rfl rfl⟩) rfl (by assumption) ?_; simp only [lset]
  refine call_s (i := 1) (by kernel_rfl) rfl rfl (by rfl) (fun K hK => ?_)
  go_simp
  with_reducible refine (EC.out _).mono ?_
  rintro e w2 ⟨rfl, b2⟩
  have hHe2 := hHeld.step b2
  clear hHeld b2
  refine hK.out _ _ hHe2 ?_; clear hK K; simp only [lset]
  have hHeld := hHe2; clear hHe2
  refine call_s (i := 3) (by kernel_rfl) rfl rfl (by rfl) (fun K hK => ?_)
  go_simp
  with_reducible refine (FC.out _).mono ?_
  rintro e w2 ⟨rfl, b2⟩
  have hHe2 := hHeld.step b2
  clear hHeld b2
  refine hK.out _ _ hHe2 ?_; clear hK K; simp only [lset]
  have hHeld := hHe2; clear hHe2
  refine take_s (i := 4) rfl (by kernel_rfl) (by kernel_rfl) (by kernel_rfl) (fun _ _ _ h => h) (Or.inl ⟨by rfl, by (intro w hSw; go_simp; try with_reducible rfl)⟩) rfl (by assumption) ?_; simp only [lset]
  refine wpAnyH_done (by kernel_rfl) ?_ _
  have HS := Lib.hid hHeld
  clear hHeld
  go_upto_region 3 with fail
  obtain ⟨c0, c16, c17, c18⟩ := HS.out.cs
  refine wp_region_held_drew (S := fun wx => S1 w wx p) (by kernel_rfl) (HS.out.drew) (fun hHeld => ?_)
  clear HS c0 c16 c17 c18
  refine take_s (i := 0) rfl (by kernel_rfl) (by kernel_rfl) (by kernel_rfl) (fun _ _ _ h => h) (Or.inl ⟨by rfl, fun w hS => ldP_run hS.k rfl rfl⟩) rfl (by assumption) ?_; simp only [lset]
  refine call_s (i := 1) (by kernel_rfl) rfl rfl (by rfl) (fun K hK => ?_)
  go_simp
  with_reducible refine (MM.out _).mono ?_
  rintro e w2 ⟨rfl, b2⟩
  have hHe2 := hHeld.step b2
  clear hHeld b2
  refine hK.out _ _ hHe2 ?_; clear hK K; simp only [lset]
  have hHeld := hHe2; clear hHe2
  refine take_s (i := 2) rfl (by kernel_rfl) (by kernel_rfl) (by kernel_rfl) (fun _ _ _ h => h) (Or.inl ⟨by rfl, by (intro w hSw; go_simp; try with_reducible rfl)⟩) rfl (by assumption) ?_; simp only [lset]
  refine take_s (i := 3) rfl (by kernel_rfl) (by kernel_rfl) (by kernel_rfl) (fun _ _ _ h => h) (Or.inl ⟨by rfl, by (intro w hSw; go_simp; try with_reducible rfl)⟩) rfl (by assumption) ?_; simp only [lset]
  refine take_s (i := 4) rfl (by kernel_rfl) (by kernel_rfl) (by kernel_rfl) (fun _ _ _ h => h) (Or.inr ⟨by rfl, rfl⟩) rfl (by assumption) ?_; simp only [lset]
  refine take_s (i := 5) rfl (by kernel_rfl) (by kernel_rfl) (by kernel_rfl) (fun _ _ _ h => h) (Or.inr ⟨by rfl, rfl⟩) rfl (by assumption) ?_; simp only [lset]
  refine take_s (i := 6) rfl (by kernel_rfl) (by kernel_rfl) (by kernel_rfl) (fun _ _ _ h => h) (Or.inr ⟨by rfl, rfl⟩) rfl (by assumption) ?_; simp only [lset]
  refine take_s (i := 7) rfl (by kernel_rfl) (by kernel_rfl) (by kernel_rfl) (fun _ _ _ h => h) (Or.inr ⟨by rfl, rfl⟩) rfl (by assumption) ?_; simp only [lset]
  refine take_s (i := 8) rfl (by kernel_rfl) (by kernel_rfl) (by kernel_rfl) (fun _ _ _ h => h) (Or.inr ⟨by rfl, rfl⟩) rfl (by assumption) ?_; simp only [lset]
  refine take_s (i := 9) rfl (by kernel_rfl) (by kernel_rfl) (by kernel_rfl) (fun _ _ _ h => h) (Or.inr ⟨by rfl, rfl⟩) rfl (by assumption) ?_; simp only [lset]
  refine take_s (i := 10) rfl (by kernel_rfl) (by kernel_rfl) (by kernel_rfl) (fun _ _ _ h => h) (Or.inr ⟨by rfl, rfl⟩) rfl (by assumption) ?_; simp only [lset]
  refine take_s (i := 11) rfl (by kernel_rfl) (by kernel_rfl) (by kernel_rfl) (fun _ _ _ h => h) (Or.inr ⟨by rfl, rfl⟩) rfl (by assumption) ?_; simp only [lset]
  refine take_s (i := 12) rfl (by kernel_rfl) (by kernel_rfl) (by kernel_rfl) (fun _ _ _ h => h) (Or.inr ⟨by rfl, rfl⟩) rfl (by assumption) ?_; simp only [lset]
  refine take_s (i := 13) rfl (by kernel_rfl) (by kernel_rfl) (by kernel_rfl) (fun _ _ _ h => h) (Or.inr ⟨by rfl, rfl⟩) rfl (by assumption) ?_; simp only [lset]
  refine take_s (i := 14) rfl (by kernel_rfl) (by kernel_rfl) (by kernel_rfl) (fun _ _ _ h => h) (Or.inr ⟨by rfl, rfl⟩) rfl (by assumption) ?_; simp only [lset]
  refine take_s (i := 15) rfl (by kernel_rfl) (by kernel_rfl) (by kernel_rfl) (fun _ _ _ h => h) (Or.inr ⟨by rfl, rfl⟩) rfl (by assumption) ?_; simp only [lset]
  refine take_s (i := 16) rfl (by kernel_rfl) (by kernel_rfl) (by kernel_rfl) (fun _ _ _ h => h) (Or.inr ⟨by rfl, rfl⟩) rfl (by assumption) ?_; simp only [lset]
  refine take_s (i := 17) rfl (by kernel_rfl) (by kernel_rfl) (by kernel_rfl) (fun _ _ _ h => h) (Or.inr ⟨by rfl, rfl⟩) rfl (by assumption) ?_; simp only [lset]
  refine take_s (i := 18) rfl (by kernel_rfl) (by kernel_rfl) (by kernel_rfl) (fun _ _ _ h => h) (Or.inr ⟨by rfl, rfl⟩) rfl (by assumption) ?_; simp only [lset]
  refine take_s (i := 19) rfl (by kernel_rfl) (by kernel_rfl) (by kernel_rfl) (fun _ _ _ h => h) (Or.inr ⟨by rfl, rfl⟩) rfl (by assumption) ?_; simp only [lset]
  refine take_s (i := 20) rfl (by kernel_rfl) (by kernel_rfl) (by kernel_rfl) (fun _ _ _ h => h) (Or.inr ⟨by rfl, rfl⟩) rfl (by assumption) ?_; simp only [lset]
  refine take_s (i := 21) rfl (by kernel_rfl) (by kernel_rfl) (by kernel_rfl) (fun _ _ _ h => h) (Or.inr ⟨by rfl, rfl⟩) rfl (by assumption) ?_; simp only [lset]
  refine take_s (i := 22) rfl (by kernel_rfl) (by kernel_rfl) (by kernel_rfl) (fun _ _ _ h => h) (Or.inr ⟨by rfl, rfl⟩) rfl (by assumption) ?_; simp only [lset]
  refine take_s (i := 23) rfl (by kernel_rfl) (by kernel_rfl) (by kernel_rfl) (fun _ _ _ h => h) (Or.inl ⟨by rfl, by (intro w hSw; go_simp; try with_reducible rfl)⟩) rfl (by assumption) ?_; simp only [lset]
  refine take_s (i := 24) rfl (by kernel_rfl) (by kernel_rfl) (by kernel_rfl) (fun _ _ _ h => h) (Or.inl ⟨by rfl, by (intro w hSw; go_simp; try with_reducible rfl)⟩) rfl (by assumption) ?_; simp only [lset]
  refine call_s (i := 25) (by kernel_rfl) rfl rfl (by rfl) (fun K hK => ?_)
  go_simp
  with_reducible refine (CW.out _).mono ?_
  rintro e w2 ⟨rfl, b2⟩
  have hHe2 := hHeld.step b2
  clear hHeld b2
  refine hK.out _ _ hHe2 ?_; clear hK K; simp only [lset]
  have hHeld := hHe2; clear hHe2
  refine take_s (i := 26) rfl (by kernel_rfl) (by kernel_rfl) (by kernel_rfl) (fun _ _ _ h => h) (Or.inl ⟨by rfl, by (intro w hSw; go_simp; try with_reducible rfl)⟩) rfl (by assumption) ?_; simp only [lset]
  refine take_s (i := 27) rfl (by kernel_rfl) (by kernel_rfl) (by kernel_rfl) (fun _ _ _ h => h) (Or.inl ⟨by rfl, by (intro w hSw; go_simp; try with_reducible rfl)⟩) rfl (by assumption) ?_; simp only [lset]
  refine wpAnyH_done (by kernel_rfl) ?_ _
  have HS := Lib.hid hHeld
  clear hHeld
  go_wp2
  go_ret
  exact ⟨rfl, HS.out.b⟩
set_option maxRecDepth 100000 in
set_option maxHeartbeats 2000000 in
theorem checks12_may (p : Prp) (w : World) (sp : SzP p) (hm : mayP p = true) : Calls Try.prog 3 #[prpV p] w fun e w' => e = .returned (.bool true) ∧ Below w.heap.size w w' := by
  have EC := fun W => gCheck_any p W sp
  have FC := fun W => hCheck_any p W
  have MM := fun W => hMay_any p W
  have CW := Lib.hid (fun W => awake12_any W)
  obtain ⟨c, hc⟩ : ∃ c : Int, (if mayP p = true then 0 else 120) = c := ⟨_, rfl⟩
  rw [hc] at EC FC
  rw [hm] at MM
  clear hc sp
  have EA := fun W => gAccessor_any p W
  have FA := fun W => hAccessor_any p W
  have ED := fun W => gData_any p W
  have FD := fun W => hData_any p W
  have EF := fun W => gFull_any p W hm
  have FF := fun W => hFull_any p W
  have SF := fun W => hSame_any (fullP p) (fullP p) W
  rw [sameP_self] at SF
  obtain ⟨fp, hfp⟩ : ∃ v, prpV (fullP p) = v := ⟨_, rfl⟩
  rw [hfp] at EF FF SF
  obtain ⟨ac, hac⟩ : ∃ b, hasB p.ph 6 = b := ⟨_, rfl⟩
  obtain ⟨da, hda⟩ : ∃ b, hasB p.ph 9 = b := ⟨_, rfl⟩
  rw [hac] at EA FA
  rw [hda] at ED FD
  clear hfp hac hda
  have SF := Lib.hid SF
  clear hm
  have e_p := show prpV p = .agg (celP p) from rfl
  rw [e_p] at EC FC MM EA FA ED FD EF FF ⊢
  clear e_p
  have EC := Lib.hid EC
  have FC := Lib.hid FC
  have MM := Lib.hid MM
  have EA := Lib.hid EA
  have FA := Lib.hid FA
  have ED := Lib.hid ED
  have FD := Lib.hid FD
  have EF := Lib.hid EF
  have FF := Lib.hid FF
  go_enter Try.func3, Try.ntmps3
  go_upto_region 1 with fail
  obtain ⟨W1, hW1⟩ : ∃ W1, w.alloc (.cells (celP p) 26) = W1 := ⟨_, rfl⟩
  have HS := Lib.hid (S1.new hW1)
  obtain ⟨c0, c16, c17, c18⟩ := HS.out.cs
  rw [hW1]
  clear hW1
  refine wp_region_held_drew (S := fun wx => S1 w wx p) (by kernel_rfl) (HS.out.drew) (fun hHeld => ?_)
  clear HS c0 c16 c17 c18
  refine take_s (i := 0) rfl (by kernel_rfl) (by kernel_rfl) (by kernel_rfl) (fun _ _ _ h => h) (Or.inl ⟨by rfl, fun w hS => ldP_run hS.k rfl rfl⟩) rfl (by assumption) ?_; simp only [lset]
  refine take_s (i := 2) rfl (by kernel_rfl) (by kernel_rfl) (by kernel_rfl) (fun _ _ _ h => h) (Or.inl ⟨by rfl, fun w hS => ldP_run hS.k rfl rfl⟩) rfl (by assumption) ?_; simp only [lset]
  refine call_s (i := 1) (by kernel_rfl) rfl rfl (by rfl) (fun K hK => ?_)
  go_simp
  with_reducible refine (EC.out _).mono ?_
  rintro e w2 ⟨rfl, b2⟩
  have hHe2 := hHeld.step b2
  clear hHeld b2
  refine hK.out _ _ hHe2 ?_; clear hK K; simp only [lset]
  have hHeld := hHe2; clear hHe2
  refine call_s (i := 3) (by kernel_rfl) rfl rfl (by rfl) (fun K hK => ?_)
  go_simp
  with_reducible refine (FC.out _).mono ?_
  rintro e w2 ⟨rfl, b2⟩
  have hHe2 := hHeld.step b2
  clear hHeld b2
  refine hK.out _ _ hHe2 ?_; clear hK K; simp only [lset]
  have hHeld := hHe2; clear hHe2
  refine take_s (i := 4) rfl (by kernel_rfl) (by kernel_rfl) (by kernel_rfl) (fun _ _ _ h => h) (Or.inl ⟨by rfl, by (intro w hSw; go_simp; try with_reducible rfl)⟩) rfl (by assumption) ?_; simp only [lset]
  refine wpAnyH_done (by kernel_rfl) ?_ _
  have HS := Lib.hid hHeld
  clear hHeld
  go_upto_region 3 with fail
  obtain ⟨c0, c16, c17, c18⟩ := HS.out.cs
  refine wp_region_held_drew (S := fun wx => S1 w wx p) (by kernel_rfl) (HS.out.drew) (fun hHeld => ?_)
  clear HS c0 c16 c17 c18
  refine take_s (i := 0) rfl (by kernel_rfl) (by kernel_rfl) (by kernel_rfl) (fun _ _ _ h => h) (Or.inl ⟨by rfl, fun w hS => ldP_run hS.k rfl rfl⟩) rfl (by assumption) ?_; simp only [lset]
  refine call_s (i := 1) (by kernel_rfl) rfl rfl (by rfl) (fun K hK => ?_)
  go_simp
  with_reducible refine (MM.out _).mono ?_
  rintro e w2 ⟨rfl, b2⟩
  have hHe2 := hHeld.step b2
  clear hHeld b2
  refine hK.out _ _ hHe2 ?_; clear hK K; simp only [lset]
  have hHeld := hHe2; clear hHe2
  refine take_s (i := 2) rfl (by kernel_rfl) (by kernel_rfl) (by kernel_rfl) (fun _ _ _ h => h) (Or.inl ⟨by rfl, by (intro w hSw; go_simp; try with_reducible rfl)⟩) rfl (by assumption) ?_; simp only [lset]
  refine take_s (i := 3) rfl (by kernel_rfl) (by kernel_rfl) (by kernel_rfl) (fun _ _ _ h => h) (Or.inl ⟨by rfl, by (intro w hSw; go_simp; try with_reducible rfl)⟩) rfl (by assumption) ?_; simp only [lset]
  refine take_s (i := 4) rfl (by kernel_rfl) (by kernel_rfl) (by kernel_rfl) (fun _ _ _ h => h) (Or.inl ⟨by rfl, fun w hS => ldP_run hS.k rfl rfl⟩) rfl (by assumption) ?_; simp only [lset]
  refine take_s (i := 6) rfl (by kernel_rfl) (by kernel_rfl) (by kernel_rfl) (fun _ _ _ h => h) (Or.inl ⟨by rfl, fun w hS => ldP_run hS.k rfl rfl⟩) rfl (by assumption) ?_; simp only [lset]
  refine call_s (i := 5) (by kernel_rfl) rfl rfl (by rfl) (fun K hK => ?_)
  go_simp
  with_reducible refine (EA.out _).mono ?_
  rintro e w2 ⟨rfl, b2⟩
  have hHe2 := hHeld.step b2
  clear hHeld b2
  refine hK.out _ _ hHe2 ?_; clear hK K; simp only [lset]
  have hHeld := hHe2; clear hHe2
  refine call_s (i := 7) (by kernel_rfl) rfl rfl (by rfl) (fun K hK => ?_)
  go_simp
  with_reducible refine (FA.out _).mono ?_
  rintro e w2 ⟨rfl, b2⟩
  have hHe2 := hHeld.step b2
  clear hHeld b2
  refine hK.out _ _ hHe2 ?_; clear hK K; simp only [lset]
  have hHeld := hHe2; clear hHe2
  refine take_s (i := 8) rfl (by kernel_rfl) (by kernel_rfl) (by kernel_rfl) (fun _ _ _ h => h) (Or.inl ⟨by rfl, by (intro w hSw; go_simp; try with_reducible rfl)⟩) rfl (by assumption) ?_; simp only [lset]
  refine take_s (i := 9) rfl (by kernel_rfl) (by kernel_rfl) (by kernel_rfl) (fun _ _ _ h => h) (Or.inl ⟨by rfl, by (intro w hSw; go_simp; try with_reducible rfl)⟩) rfl (by assumption) ?_; simp only [lset]
  refine take_s (i := 10) rfl (by kernel_rfl) (by kernel_rfl) (by kernel_rfl) (fun _ _ _ h => h) (Or.inl ⟨by rfl, fun w hS => ldP_run hS.k rfl rfl⟩) rfl (by assumption) ?_; simp only [lset]
  refine take_s (i := 12) rfl (by kernel_rfl) (by kernel_rfl) (by kernel_rfl) (fun _ _ _ h => h) (Or.inl ⟨by rfl, fun w hS => ldP_run hS.k rfl rfl⟩) rfl (by assumption) ?_; simp only [lset]
  refine call_s (i := 11) (by kernel_rfl) rfl rfl (by rfl) (fun K hK => ?_)
  go_simp
  with_reducible refine (ED.out _).mono ?_
  rintro e w2 ⟨rfl, b2⟩
  have hHe2 := hHeld.step b2
  clear hHeld b2
  refine hK.out _ _ hHe2 ?_; clear hK K; simp only [lset]
  have hHeld := hHe2; clear hHe2
  refine call_s (i := 13) (by kernel_rfl) rfl rfl (by rfl) (fun K hK => ?_)
  go_simp
  with_reducible refine (FD.out _).mono ?_
  rintro e w2 ⟨rfl, b2⟩
  have hHe2 := hHeld.step b2
  clear hHeld b2
  refine hK.out _ _ hHe2 ?_; clear hK K; simp only [lset]
  have hHeld := hHe2; clear hHe2
  refine take_s (i := 14) rfl (by kernel_rfl) (by kernel_rfl) (by kernel_rfl) (fun _ _ _ h => h) (Or.inl ⟨by rfl, by (intro w hSw; go_simp; try with_reducible rfl)⟩) rfl (by assumption) ?_; simp only [lset]
  refine take_s (i := 15) rfl (by kernel_rfl) (by kernel_rfl) (by kernel_rfl) (fun _ _ _ h => h) (Or.inl ⟨by rfl, by (intro w hSw; go_simp; try with_reducible rfl)⟩) rfl (by assumption) ?_; simp only [lset]
  refine take_s (i := 16) rfl (by kernel_rfl) (by kernel_rfl) (by kernel_rfl) (fun _ _ _ h => h) (Or.inl ⟨by rfl, by (intro w hSw; go_simp; try with_reducible rfl)⟩) rfl (by assumption) ?_; simp only [lset]
  refine take_s (i := 17) rfl (by kernel_rfl) (by kernel_rfl) (by kernel_rfl) (fun _ _ _ h => h) (Or.inl ⟨by rfl, fun w hS => ldP_run hS.k rfl rfl⟩) rfl (by assumption) ?_; simp only [lset]
  refine take_s (i := 19) rfl (by kernel_rfl) (by kernel_rfl) (by kernel_rfl) (fun _ _ _ h => h) (Or.inl ⟨by rfl, fun w hS => ldP_run hS.k rfl rfl⟩) rfl (by assumption) ?_; simp only [lset]
  refine call_s (i := 18) (by kernel_rfl) rfl rfl (by rfl) (fun K hK => ?_)
  go_simp
  with_reducible refine (EF.out _).mono ?_
  rintro e w2 ⟨rfl, b2⟩
  have hHe2 := hHeld.step b2
  clear hHeld b2
  refine hK.out _ _ hHe2 ?_; clear hK K; simp only [lset]
  have hHeld := hHe2; clear hHe2
  refine call_s (i := 20) (by kernel_rfl) rfl rfl (by rfl) (fun K hK => ?_)
  go_simp
  with_reducible refine (FF.out _).mono ?_
  rintro e w2 ⟨rfl, b2⟩
  have hHe2 := hHeld.step b2
  clear hHeld b2
  refine hK.out _ _ hHe2 ?_; clear hK K; simp only [lset]
  have hHeld := hHe2; clear hHe2
  refine call_s (i := 21) (by kernel_rfl) rfl rfl (by rfl) (fun K hK => ?_)
  go_simp
  with_reducible refine (SF.out _).mono ?_
  rintro e w2 ⟨rfl, b2⟩
  have hHe2 := hHeld.step b2
  clear hHeld b2
  refine hK.out _ _ hHe2 ?_; clear hK K; simp only [lset]
  have hHeld := hHe2; clear hHe2
  refine take_s (i := 22) rfl (by kernel_rfl) (by kernel_rfl) (by kernel_rfl) (fun _ _ _ h => h) (Or.inl ⟨by rfl, by (intro w hSw; go_simp; try with_reducible rfl)⟩) rfl (by assumption) ?_; simp only [lset]
  refine take_s (i := 23) rfl (by kernel_rfl) (by kernel_rfl) (by kernel_rfl) (fun _ _ _ h => h) (Or.inl ⟨by rfl, by (intro w hSw; go_simp; try with_reducible rfl)⟩) rfl (by assumption) ?_; simp only [lset]
  refine take_s (i := 24) rfl (by kernel_rfl) (by kernel_rfl) (by kernel_rfl) (fun _ _ _ h => h) (Or.inl ⟨by rfl, by (intro w hSw; go_simp; try with_reducible rfl)⟩) rfl (by assumption) ?_; simp only [lset]
  refine call_s (i := 25) (by kernel_rfl) rfl rfl (by rfl) (fun K hK => ?_)
  go_simp
  with_reducible refine (CW.out _).mono ?_
  rintro e w2 ⟨rfl, b2⟩
  have hHe2 := hHeld.step b2
  clear hHeld b2
  refine hK.out _ _ hHe2 ?_; clear hK K; simp only [lset]
  have hHeld := hHe2; clear hHe2
  refine take_s (i := 26) rfl (by kernel_rfl) (by kernel_rfl) (by kernel_rfl) (fun _ _ _ h => h) (Or.inl ⟨by rfl, by (intro w hSw; go_simp; try with_reducible rfl)⟩) rfl (by assumption) ?_; simp only [lset]
  refine take_s (i := 27) rfl (by kernel_rfl) (by kernel_rfl) (by kernel_rfl) (fun _ _ _ h => h) (Or.inl ⟨by rfl, by (intro w hSw; go_simp; try with_reducible rfl)⟩) rfl (by assumption) ?_; simp only [lset]
  refine wpAnyH_done (by kernel_rfl) ?_ _
  have HS := Lib.hid hHeld
  clear hHeld
  go_wp2
  go_ret
  exact ⟨rfl, HS.out.b⟩
theorem checks12_any (p : Prp) (w : World) (sp : SzP p) : Calls Try.prog 3 #[prpV p] w fun e w' => e = .returned (.bool true) ∧ Below w.heap.size w w' := by
  cases hm : mayP p
  · exact checks12_un p w sp hm
  · exact checks12_may p w sp hm
end Go.Proofs.Ytlkgijinckhkkaa
