/-
  The program's Change and Check of descriptors.
-/
import Derived.Test.YtlkgijinckhkkaaQ3
import Derived.Test.YtlkgijinckhkkaaQ5
namespace Go.Proofs.Ytlkgijinckhkkaa
open Go.RowKit
def okB (p q : Prp) : Bool := p.pc || letsB p q
set_option maxRecDepth 100000 in
set_option maxHeartbeats 4000000 in
theorem gChange_raw (p q : Prp) (w : World) (mp : MayV p) (mq : MayV q) (np : NumP p) (nq : NumP q) : Calls Try.prog 18 #[.agg (celP p), .agg (celP q)] w fun e w' =>
    e = (if okB p q = true then .returned (.tuple #[.agg (celP (overP (turP p q) q)), .bool true]) else .returned (.tuple #[.agg (celP zPrp), .bool false])) ∧ Below w.heap.size w w' := by
  have CL := fun W => glets_any p q W mp mq np nq
  have CT := fun W => gturned_any p q W
  have CO := fun W => gover_any (turP p q) q W
  clear mp mq np nq
  unfold okB
  obtain ⟨U, e_U⟩ : ∃ r, turP p q = r := ⟨_, rfl⟩
  rw [e_U] at CT CO ⊢
  clear e_U
  obtain ⟨R, e_R⟩ : ∃ r, overP U q = r := ⟨_, rfl⟩
  rw [e_R] at CO ⊢
  clear e_R
  obtain ⟨yc, e_yc⟩ : ∃ b, p.pc = b := ⟨_, rfl⟩
  obtain ⟨lt, e_lt⟩ : ∃ b, letsB p q = b := ⟨_, rfl⟩
  rw [e_lt] at CL ⊢
  rw [e_yc]
  clear e_lt
  obtain ⟨Z, e_Z⟩ : ∃ E, (if (yc || lt) = true then Ending.returned (.tuple #[.agg (celP R), .bool true]) else .returned (.tuple #[.agg (celP zPrp), .bool false])) = E := ⟨_, rfl⟩
  rw [e_Z]
  have HZ := Lib.hid e_Z
  clear e_Z
  have CL := Lib.hid CL
  have CT := Lib.hid CT
  have CO := Lib.hid CO
  go_enter Try.func18, Try.ntmps18
  go_upto_region 1 with fail
  rw [celP_zero]
  obtain ⟨W1, hW1⟩ : ∃ W1, w.alloc (.cells (celP p) 26) = W1 := ⟨_, rfl⟩
  rw [hW1]
  obtain ⟨W2, hW2⟩ : ∃ W2, W1.alloc (.cells (celP q) 26) = W2 := ⟨_, rfl⟩
  rw [hW2]
  obtain ⟨W3, hW3⟩ : ∃ W3, W2.alloc (.cells (celP zPrp) 26) = W3 := ⟨_, rfl⟩
  have HS := Lib.hid (S3r.of (S3.new hW1 hW2 hW3))
  obtain ⟨a0, a16, a17, a18, d0, d16, d17, d18⟩ := HS.out.cs
  rw [hW3]
  clear hW1 hW2 hW3
  cases yc
  · skip
    cases lt
    · skip
      go_wp2_with (first | (refine ldP (k := 10) HS.out.k rfl (by kernel_rfl) rfl rfl ?_) | (refine ldP (k := 11) HS.out.k2 rfl (by kernel_rfl) rfl rfl ?_))
      with_reducible refine (CL.out _).mono ?_
      rintro e w2 ⟨rfl, b2⟩
      have HT := HS; clear HS
      have HS := Lib.hid (HT.out.step b2)
      clear HT b2 a0 a16 a17 a18 d0 d16 d17 d18
      obtain ⟨a0, a16, a17, a18, d0, d16, d17, d18⟩ := HS.out.cs
      have HR := Lib.hid (HS.out.row3 zPrp)
      go_wp2_with (first | (refine stP (p := zPrp) HS.out.kr rfl rfl rfl rfl rfl ?_))
      refine prR2 HR.out.kr rfl rfl rfl ⟨by rw [← HZ.out]; rfl, HR.out.b⟩
    · skip
      go_wp2_with (first | (refine ldP (k := 10) HS.out.k rfl (by kernel_rfl) rfl rfl ?_) | (refine ldP (k := 11) HS.out.k2 rfl (by kernel_rfl) rfl rfl ?_))
      with_reducible refine (CL.out _).mono ?_
      rintro e w2 ⟨rfl, b2⟩
      have HT := HS; clear HS
      have HS := Lib.hid (HT.out.step b2)
      clear HT b2 a0 a16 a17 a18 d0 d16 d17 d18
      obtain ⟨a0, a16, a17, a18, d0, d16, d17, d18⟩ := HS.out.cs
      go_upto_region 3 with fail
      refine wp_region_held_drew (S := fun wx => ∃ r, S3r w wx p q r) (by kernel_rfl) ⟨_, HS.out.drew⟩ (fun hH => ?_)
      clear hH
      have hHeld := HS.out.drew
      clear HS a0 a16 a17 a18 d0 d16 d17 d18
      refine take_s (i := 0) rfl (by kernel_rfl) (by kernel_rfl) (by kernel_rfl) (fun _ _ _ h => h) (Or.inl ⟨by rfl, fun w ⟨_, hS⟩ => ldP_run hS.k rfl rfl⟩) rfl ⟨_, hHeld⟩ ?_; simp only [lset]
      refine take_s (i := 1) rfl (by kernel_rfl) (by kernel_rfl) (by kernel_rfl) (fun _ _ _ h => h) (Or.inl ⟨by rfl, fun w ⟨_, hS⟩ => ldP_run hS.k2 rfl rfl⟩) rfl ⟨_, hHeld⟩ ?_; simp only [lset]
      refine take_s (i := 3) rfl (by kernel_rfl) (by kernel_rfl) (by kernel_rfl) (fun _ _ _ h => h) (Or.inl ⟨by rfl, fun w ⟨_, hS⟩ => ldP_run hS.k2 rfl rfl⟩) rfl ⟨_, hHeld⟩ ?_; simp only [lset]
      refine call_s (i := 2) (by kernel_rfl) rfl rfl (by rfl) (fun K hK => ?_)
      go_simp
      with_reducible refine (CT.out _).mono ?_
      rintro e w2 ⟨rfl, b2⟩
      have hHe2 := hHeld.step b2
      clear hHeld b2
      refine hK.out _ _ ⟨_, hHe2⟩ ?_; clear hK K; simp only [lset]
      have hHeld := hHe2; clear hHe2
      refine call_s (i := 4) (by kernel_rfl) rfl rfl (by rfl) (fun K hK => ?_)
      go_simp
      with_reducible refine (CO.out _).mono ?_
      rintro e w2 ⟨rfl, b2⟩
      have hHe2 := hHeld.step b2
      clear hHeld b2
      refine hK.out _ _ ⟨_, hHe2⟩ ?_; clear hK K; simp only [lset]
      have hHeld := hHe2; clear hHe2
      refine storeP_s (i := 5) hHeld.kr (by kernel_rfl) rfl rfl (by rfl) rfl rfl rfl ⟨_, hHeld.row3 _⟩ ?_
      refine take_s (i := 6) rfl (by kernel_rfl) (by kernel_rfl) (by kernel_rfl) (fun _ _ _ h => h) (Or.inl ⟨by rfl, by (intro w hSw; go_simp; try with_reducible rfl)⟩) rfl ⟨_, hHeld.row3 R⟩ ?_; simp only [lset]
      refine wpAnyH_done (by kernel_rfl) ?_ _
      have HR := Lib.hid (hHeld.row3 R)
      go_wp2
      refine prR2 HR.out.kr rfl rfl rfl ⟨by rw [← HZ.out]; rfl, HR.out.b⟩
  · skip
    go_upto_region 3 with fail
    refine wp_region_held_drew (S := fun wx => ∃ r, S3r w wx p q r) (by kernel_rfl) ⟨_, HS.out.drew⟩ (fun hH => ?_)
    clear hH
    have hHeld := HS.out.drew
    clear HS a0 a16 a17 a18 d0 d16 d17 d18
    refine take_s (i := 0) rfl (by kernel_rfl) (by kernel_rfl) (by kernel_rfl) (fun _ _ _ h => h) (Or.inl ⟨by rfl, fun w ⟨_, hS⟩ => ldP_run hS.k rfl rfl⟩) rfl ⟨_, hHeld⟩ ?_; simp only [lset]
    refine take_s (i := 1) rfl (by kernel_rfl) (by kernel_rfl) (by kernel_rfl) (fun _ _ _ h => h) (Or.inl ⟨by rfl, fun w ⟨_, hS⟩ => ldP_run hS.k2 rfl rfl⟩) rfl ⟨_, hHeld⟩ ?_; simp only [lset]
    refine take_s (i := 3) rfl (by kernel_rfl) (by kernel_rfl) (by kernel_rfl) (fun _ _ _ h => h) (Or.inl ⟨by rfl, fun w ⟨_, hS⟩ => ldP_run hS.k2 rfl rfl⟩) rfl ⟨_, hHeld⟩ ?_; simp only [lset]
    refine call_s (i := 2) (by kernel_rfl) rfl rfl (by rfl) (fun K hK => ?_)
    go_simp
    with_reducible refine (CT.out _).mono ?_
    rintro e w2 ⟨rfl, b2⟩
    have hHe2 := hHeld.step b2
    clear hHeld b2
    refine hK.out _ _ ⟨_, hHe2⟩ ?_; clear hK K; simp only [lset]
    have hHeld := hHe2; clear hHe2
    refine call_s (i := 4) (by kernel_rfl) rfl rfl (by rfl) (fun K hK => ?_)
    go_simp
    with_reducible refine (CO.out _).mono ?_
    rintro e w2 ⟨rfl, b2⟩
    have hHe2 := hHeld.step b2
    clear hHeld b2
    refine hK.out _ _ ⟨_, hHe2⟩ ?_; clear hK K; simp only [lset]
    have hHeld := hHe2; clear hHe2
    refine storeP_s (i := 5) hHeld.kr (by kernel_rfl) rfl rfl (by rfl) rfl rfl rfl ⟨_, hHeld.row3 _⟩ ?_
    refine take_s (i := 6) rfl (by kernel_rfl) (by kernel_rfl) (by kernel_rfl) (fun _ _ _ h => h) (Or.inl ⟨by rfl, by (intro w hSw; go_simp; try with_reducible rfl)⟩) rfl ⟨_, hHeld.row3 R⟩ ?_; simp only [lset]
    refine wpAnyH_done (by kernel_rfl) ?_ _
    have HR := Lib.hid (hHeld.row3 R)
    go_wp2
    refine prR2 HR.out.kr rfl rfl rfl ⟨by rw [← HZ.out]; rfl, HR.out.b⟩
/-- May a descriptor be, as the program asks it? -/
def chkB (p : Prp) : Bool := !(bits BinOp.andNot IntKind.i64 p.ph 63 != 0) && !(hasB p.ph 6 && hasB p.ph 9) && samePB p (overP zPrp p) && mayB p.pv && calleeB p.pg && calleeB p.pt
/-- Texts that a machine holds. -/
structure SzP (p : Prp) : Prop where
  lo : -9223372036854775808 ≤ p.ph
  hi : p.ph < 9223372036854775808
  v : p.pv.vs.size ≤ maxLen
  g : p.pg.vs.size ≤ maxLen
  t : p.pt.vs.size ≤ maxLen
set_option maxRecDepth 100000 in
set_option maxHeartbeats 4000000 in
theorem gCheck_raw (p : Prp) (w : World) (sp : SzP p) : Calls Try.prog 6 #[.agg (celP p)] w fun e w' => e = .returned (.int .i64 (if chkB p = true then 0 else 120)) ∧ Below w.heap.size w w' := by
  have CA := fun W => gAccessor_any p W
  have CD := fun W => gData_any p W
  have CO := fun W => gover_any zPrp p W
  have CS := fun W => gSame_any p (overP zPrp p) W
  have CV := fun W => eCheck_any p.pv W sp.v
  have CG := fun W => gcalled_any p.pg W sp.g
  have CT := fun W => gcalled_any p.pt W sp.t
  clear sp
  unfold chkB
  obtain ⟨n0, e_n0⟩ : ∃ b, (bits BinOp.andNot IntKind.i64 p.ph 63 != 0) = b := ⟨_, rfl⟩
  obtain ⟨c1, e_c1⟩ : ∃ c : Int, (if mayB p.pv = true then 0 else 1) = c := ⟨_, rfl⟩
  have h_c1 : mayB p.pv = !(c1 != 0) := by rw [← e_c1]; cases mayB p.pv <;> rfl
  rw [e_c1] at CV
  clear e_c1
  rw [h_c1, e_n0]
  clear h_c1
  obtain ⟨n1, e_n1⟩ : ∃ b, (c1 != 0) = b := ⟨_, rfl⟩
  rw [e_n1]
  obtain ⟨ha, e_ha⟩ : ∃ b, hasB p.ph 6 = b := ⟨_, rfl⟩
  obtain ⟨hd, e_hd⟩ : ∃ b, hasB p.ph 9 = b := ⟨_, rfl⟩
  obtain ⟨sm, e_sm⟩ : ∃ b, samePB p (overP zPrp p) = b := ⟨_, rfl⟩
  obtain ⟨g2, e_g2⟩ : ∃ b, calleeB p.pg = b := ⟨_, rfl⟩
  obtain ⟨g3, e_g3⟩ : ∃ b, calleeB p.pt = b := ⟨_, rfl⟩
  rw [e_ha] at CA ⊢
  rw [e_hd] at CD ⊢
  rw [e_sm] at CS ⊢
  rw [e_g2] at CG ⊢
  rw [e_g3] at CT ⊢
  clear e_ha e_hd e_sm e_g2 e_g3
  obtain ⟨V, e_V⟩ : ∃ r, overP zPrp p = r := ⟨_, rfl⟩
  rw [e_V] at CO CS
  clear e_V
  unfold prpV at CA CD CS
  have CA := Lib.hid CA
  have CD := Lib.hid CD
  have CO := Lib.hid CO
  have CS := Lib.hid CS
  have CV := Lib.hid CV
  have CG := Lib.hid CG
  have CT := Lib.hid CT
  go_enter Try.func6, Try.ntmps6
  go_upto_region 1 with fail
  obtain ⟨W1, hW1⟩ : ∃ W1, w.alloc (.cells (celP p) 26) = W1 := ⟨_, rfl⟩
  have HS := Lib.hid (S1.new hW1)
  obtain ⟨c0, c16, c17, c18⟩ := HS.out.cs
  rw [hW1]
  clear hW1
  cases n0
  · skip
    cases ha
    · skip
      go_wp2_with (first | (refine ldP (k := 8) HS.out.k rfl (by kernel_rfl) rfl rfl ?_))
      with_reducible refine (CA.out _).mono ?_
      rintro e w2 ⟨rfl, b2⟩
      have HT := HS; clear HS
      have HS := Lib.hid (HT.out.step b2)
      clear HT b2 c0 c16 c17 c18
      obtain ⟨c0, c16, c17, c18⟩ := HS.out.cs
      go_upto_region 3 with fail
      refine wp_region_held_drew (S := fun wx => S1 w wx p) (by kernel_rfl) (HS.out.drew) (fun hHeld => ?_)
      clear HS c0 c16 c17 c18
      refine take_s (i := 0) rfl (by kernel_rfl) (by kernel_rfl) (by kernel_rfl) (fun _ _ _ h => h) (Or.inl ⟨by rfl, fun w hS => ldP_run hS.k rfl rfl⟩) rfl (by assumption) ?_; simp only [lset]
      refine take_s (i := 1) rfl (by kernel_rfl) (by kernel_rfl) (by kernel_rfl) (fun _ _ _ h => h) (Or.inl ⟨by rfl, fun w _ => bldP_run rfl⟩) rfl (by assumption) ?_; simp only [lset]
      refine take_s (i := 2) rfl (by kernel_rfl) (by kernel_rfl) (by kernel_rfl) (fun _ _ _ h => h) (Or.inl ⟨by rfl, fun w hS => ldP_run hS.k rfl rfl⟩) rfl (by assumption) ?_; simp only [lset]
      refine call_s (i := 3) (by kernel_rfl) rfl rfl (by rfl) (fun K hK => ?_)
      go_simp
      with_reducible refine (CO.out _).mono ?_
      rintro e w2 ⟨rfl, b2⟩
      have hHe2 := hHeld.step b2
      clear hHeld b2
      refine hK.out _ _ hHe2 ?_; clear hK K; simp only [lset]
      have hHeld := hHe2; clear hHe2
      refine call_s (i := 4) (by kernel_rfl) rfl rfl (by rfl) (fun K hK => ?_)
      go_simp
      with_reducible refine (CS.out _).mono ?_
      rintro e w2 ⟨rfl, b2⟩
      have hHe2 := hHeld.step b2
      clear hHeld b2
      refine hK.out _ _ hHe2 ?_; clear hK K; simp only [lset]
      have hHeld := hHe2; clear hHe2
      refine take_s (i := 5) rfl (by kernel_rfl) (by kernel_rfl) (by kernel_rfl) (fun _ _ _ h => h) (Or.inl ⟨by rfl, by (intro w hSw; go_simp; try with_reducible rfl)⟩) rfl (by assumption) ?_; simp only [lset]
      refine take_s (i := 6) rfl (by kernel_rfl) (by kernel_rfl) (by kernel_rfl) (fun _ _ _ h => h) (Or.inl ⟨by rfl, by (intro w hSw; go_simp; try with_reducible rfl)⟩) rfl (by assumption) ?_; simp only [lset]
      refine wpAnyH_done (by kernel_rfl) ?_ _
      have HS := Lib.hid hHeld
      clear hHeld
      cases sm
      · skip
        go_wp2
        go_ret
        exact ⟨by simp, HS.out.b⟩
      · skip
        go_upto_region 5 with fail
        obtain ⟨c0, c16, c17, c18⟩ := HS.out.cs
        go_wp2_with (first | (refine ldV (k := 22) (off := 1) (v := p.pv) HS.out.k rfl rfl (by omega) (by kernel_rfl) rfl rfl ?_))
        with_reducible refine (CV.out _).mono ?_
        rintro e w2 ⟨rfl, b2⟩
        have HT := HS; clear HS
        have HS := Lib.hid (HT.out.step b2)
        clear HT b2 c0 c16 c17 c18
        obtain ⟨c0, c16, c17, c18⟩ := HS.out.cs
        cases n1
        · skip
          cases g2
          · skip
            go_wp2_with (first | (refine ldV (k := 26) (off := 6) (v := p.pg) HS.out.k rfl rfl (by omega) (by kernel_rfl) rfl rfl ?_))
            with_reducible refine (CG.out _).mono ?_
            rintro e w2 ⟨rfl, b2⟩
            have HT := HS; clear HS
            have HS := Lib.hid (HT.out.step b2)
            clear HT b2 c0 c16 c17 c18
            obtain ⟨c0, c16, c17, c18⟩ := HS.out.cs
            go_wp2
            go_ret
            exact ⟨by simp, HS.out.b⟩
          · skip
            go_wp2_with (first | (refine ldV (k := 26) (off := 6) (v := p.pg) HS.out.k rfl rfl (by omega) (by kernel_rfl) rfl rfl ?_))
            with_reducible refine (CG.out _).mono ?_
            rintro e w2 ⟨rfl, b2⟩
            have HT := HS; clear HS
            have HS := Lib.hid (HT.out.step b2)
            clear HT b2 c0 c16 c17 c18
            obtain ⟨c0, c16, c17, c18⟩ := HS.out.cs
            cases g3
            · skip
              go_wp2_with (first | (refine ldV (k := 30) (off := 11) (v := p.pt) HS.out.k rfl rfl (by omega) (by kernel_rfl) rfl rfl ?_))
              with_reducible refine (CT.out _).mono ?_
              rintro e w2 ⟨rfl, b2⟩
              have HT := HS; clear HS
              have HS := Lib.hid (HT.out.step b2)
              clear HT b2 c0 c16 c17 c18
              obtain ⟨c0, c16, c17, c18⟩ := HS.out.cs
              go_wp2
              go_ret
              exact ⟨by simp, HS.out.b⟩
            · skip
              go_wp2_with (first | (refine ldV (k := 30) (off := 11) (v := p.pt) HS.out.k rfl rfl (by omega) (by kernel_rfl) rfl rfl ?_))
              with_reducible refine (CT.out _).mono ?_
              rintro e w2 ⟨rfl, b2⟩
              have HT := HS; clear HS
              have HS := Lib.hid (HT.out.step b2)
              clear HT b2 c0 c16 c17 c18
              obtain ⟨c0, c16, c17, c18⟩ := HS.out.cs
              go_wp2
              go_ret
              exact ⟨by simp, HS.out.b⟩
        · skip
          go_wp2
          go_ret
          exact ⟨by simp, HS.out.b⟩
    · skip
      go_wp2_with (first | (refine ldP (k := 8) HS.out.k rfl (by kernel_rfl) rfl rfl ?_))
      with_reducible refine (CA.out _).mono ?_
      rintro e w2 ⟨rfl, b2⟩
      have HT := HS; clear HS
      have HS := Lib.hid (HT.out.step b2)
      clear HT b2 c0 c16 c17 c18
      obtain ⟨c0, c16, c17, c18⟩ := HS.out.cs
      cases hd
      · skip
        go_wp2_with (first | (refine ldP (k := 11) HS.out.k rfl (by kernel_rfl) rfl rfl ?_))
        with_reducible refine (CD.out _).mono ?_
        rintro e w2 ⟨rfl, b2⟩
        have HT := HS; clear HS
        have HS := Lib.hid (HT.out.step b2)
        clear HT b2 c0 c16 c17 c18
        obtain ⟨c0, c16, c17, c18⟩ := HS.out.cs
        go_upto_region 3 with fail
        refine wp_region_held_drew (S := fun wx => S1 w wx p) (by kernel_rfl) (HS.out.drew) (fun hHeld => ?_)
        clear HS c0 c16 c17 c18
        refine take_s (i := 0) rfl (by kernel_rfl) (by kernel_rfl) (by kernel_rfl) (fun _ _ _ h => h) (Or.inl ⟨by rfl, fun w hS => ldP_run hS.k rfl rfl⟩) rfl (by assumption) ?_; simp only [lset]
        refine take_s (i := 1) rfl (by kernel_rfl) (by kernel_rfl) (by kernel_rfl) (fun _ _ _ h => h) (Or.inl ⟨by rfl, fun w _ => bldP_run rfl⟩) rfl (by assumption) ?_; simp only [lset]
        refine take_s (i := 2) rfl (by kernel_rfl) (by kernel_rfl) (by kernel_rfl) (fun _ _ _ h => h) (Or.inl ⟨by rfl, fun w hS => ldP_run hS.k rfl rfl⟩) rfl (by assumption) ?_; simp only [lset]
        refine call_s (i := 3) (by kernel_rfl) rfl rfl (by rfl) (fun K hK => ?_)
        go_simp
        with_reducible refine (CO.out _).mono ?_
        rintro e w2 ⟨rfl, b2⟩
        have hHe2 := hHeld.step b2
        clear hHeld b2
        refine hK.out _ _ hHe2 ?_; clear hK K; simp only [lset]
        have hHeld := hHe2; clear hHe2
        refine call_s (i := 4) (by kernel_rfl) rfl rfl (by rfl) (fun K hK => ?_)
        go_simp
        with_reducible refine (CS.out _).mono ?_
        rintro e w2 ⟨rfl, b2⟩
        have hHe2 := hHeld.step b2
        clear hHeld b2
        refine hK.out _ _ hHe2 ?_; clear hK K; simp only [lset]
        have hHeld := hHe2; clear hHe2
        refine take_s (i := 5) rfl (by kernel_rfl) (by kernel_rfl) (by kernel_rfl) (fun _ _ _ h => h) (Or.inl ⟨by rfl, by (intro w hSw; go_simp; try with_reducible rfl)⟩) rfl (by assumption) ?_; simp only [lset]
        refine take_s (i := 6) rfl (by kernel_rfl) (by kernel_rfl) (by kernel_rfl) (fun _ _ _ h => h) (Or.inl ⟨by rfl, by (intro w hSw; go_simp; try with_reducible rfl)⟩) rfl (by assumption) ?_; simp only [lset]
        refine wpAnyH_done (by kernel_rfl) ?_ _
        have HS := Lib.hid hHeld
        clear hHeld
        cases sm
        · skip
          go_wp2
          go_ret
          exact ⟨by simp, HS.out.b⟩
        · skip
          go_upto_region 5 with fail
          obtain ⟨c0, c16, c17, c18⟩ := HS.out.cs
          go_wp2_with (first | (refine ldV (k := 22) (off := 1) (v := p.pv) HS.out.k rfl rfl (by omega) (by kernel_rfl) rfl rfl ?_))
          with_reducible refine (CV.out _).mono ?_
          rintro e w2 ⟨rfl, b2⟩
          have HT := HS; clear HS
          have HS := Lib.hid (HT.out.step b2)
          clear HT b2 c0 c16 c17 c18
          obtain ⟨c0, c16, c17, c18⟩ := HS.out.cs
          cases n1
          · skip
            cases g2
            · skip
              go_wp2_with (first | (refine ldV (k := 26) (off := 6) (v := p.pg) HS.out.k rfl rfl (by omega) (by kernel_rfl) rfl rfl ?_))
              with_reducible refine (CG.out _).mono ?_
              rintro e w2 ⟨rfl, b2⟩
              have HT := HS; clear HS
              have HS := Lib.hid (HT.out.step b2)
              clear HT b2 c0 c16 c17 c18
              obtain ⟨c0, c16, c17, c18⟩ := HS.out.cs
              go_wp2
              go_ret
              exact ⟨by simp, HS.out.b⟩
            · skip
              go_wp2_with (first | (refine ldV (k := 26) (off := 6) (v := p.pg) HS.out.k rfl rfl (by omega) (by kernel_rfl) rfl rfl ?_))
              with_reducible refine (CG.out _).mono ?_
              rintro e w2 ⟨rfl, b2⟩
              have HT := HS; clear HS
              have HS := Lib.hid (HT.out.step b2)
              clear HT b2 c0 c16 c17 c18
              obtain ⟨c0, c16, c17, c18⟩ := HS.out.cs
              cases g3
              · skip
                go_wp2_with (first | (refine ldV (k := 30) (off := 11) (v := p.pt) HS.out.k rfl rfl (by omega) (by kernel_rfl) rfl rfl ?_))
                with_reducible refine (CT.out _).mono ?_
                rintro e w2 ⟨rfl, b2⟩
                have HT := HS; clear HS
                have HS := Lib.hid (HT.out.step b2)
                clear HT b2 c0 c16 c17 c18
                obtain ⟨c0, c16, c17, c18⟩ := HS.out.cs
                go_wp2
                go_ret
                exact ⟨by simp, HS.out.b⟩
              · skip
                go_wp2_with (first | (refine ldV (k := 30) (off := 11) (v := p.pt) HS.out.k rfl rfl (by omega) (by kernel_rfl) rfl rfl ?_))
                with_reducible refine (CT.out _).mono ?_
                rintro e w2 ⟨rfl, b2⟩
                have HT := HS; clear HS
                have HS := Lib.hid (HT.out.step b2)
                clear HT b2 c0 c16 c17 c18
                obtain ⟨c0, c16, c17, c18⟩ := HS.out.cs
                go_wp2
                go_ret
                exact ⟨by simp, HS.out.b⟩
          · skip
            go_wp2
            go_ret
            exact ⟨by simp, HS.out.b⟩
      · skip
        go_wp2_with (first | (refine ldP (k := 11) HS.out.k rfl (by kernel_rfl) rfl rfl ?_))
        with_reducible refine (CD.out _).mono ?_
        rintro e w2 ⟨rfl, b2⟩
        have HT := HS; clear HS
        have HS := Lib.hid (HT.out.step b2)
        clear HT b2 c0 c16 c17 c18
        obtain ⟨c0, c16, c17, c18⟩ := HS.out.cs
        go_wp2
        go_ret
        exact ⟨by simp, HS.out.b⟩
  · skip
    go_wp2
    go_ret
    exact ⟨by simp, HS.out.b⟩
end Go.Proofs.Ytlkgijinckhkkaa
