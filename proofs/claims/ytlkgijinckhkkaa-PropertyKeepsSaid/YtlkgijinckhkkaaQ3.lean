/-
  The program's lets, turned, Change, Check of descriptors.
-/
import Derived.Test.YtlkgijinckhkkaaQ2
namespace Go.Proofs.Ytlkgijinckhkkaa
open Go.RowKit
def staB (q : Prp) (m : Int) (x y : Val) : Bool := !hasB q.ph m || sameW x y
/-- May q be defined over p, which is not configurable, as the program asks it? -/
def letsB (p q : Prp) : Bool :=
  if (q.pc && hasB q.ph 32) = true then false
  else if (q.pe != p.pe && hasB q.ph 16) = true then false
  else if (!hasB q.ph 6 && !hasB q.ph 9) = true then true
  else if (hasB q.ph 6 != hasB p.ph 6) = true then false
  else if hasB q.ph 6 = true then staB q 2 q.pg p.pg && staB q 4 q.pt p.pt
  else p.pw || (!(q.pw && hasB q.ph 8) && staB q 1 q.pv p.pv)
structure MayV (p : Prp) : Prop where
  v : mayB p.pv = true
  g : mayB p.pg = true
  t : mayB p.pt = true
set_option maxRecDepth 100000 in
set_option maxHeartbeats 4000000 in
theorem glets_any (p q : Prp) (w : World) (mp : MayV p) (mq : MayV q) (np : NumP p) (nq : NumP q) : Calls Try.prog 32 #[.agg (celP p), .agg (celP q)] w fun e w' => e = .returned (.bool (letsB p q)) ∧ Below w.heap.size w w' := by
  have C32 := fun W => ghas_any q 32 W
  have C16 := fun W => ghas_any q 16 W
  have C8 := fun W => ghas_any q 8 W
  have CG := fun W => ggeneric_any q W
  have CA := fun W => gAccessor_any q W
  have CB := fun W => gAccessor_any p W
  have E1 := fun W => gstays_any q 1 q.pv p.pv W mq.v mp.v nq.v np.v
  have E2 := fun W => gstays_any q 2 q.pg p.pg W mq.g mp.g nq.g np.g
  have E3 := fun W => gstays_any q 4 q.pt p.pt W mq.t mp.t nq.t np.t
  unfold letsB staB
  clear mp mq np nq
  obtain ⟨xc, e_xc⟩ : ∃ b, q.pc = b := ⟨_, rfl⟩
  obtain ⟨xe, e_xe⟩ : ∃ b, q.pe = b := ⟨_, rfl⟩
  obtain ⟨ye, e_ye⟩ : ∃ b, p.pe = b := ⟨_, rfl⟩
  obtain ⟨yw, e_yw⟩ : ∃ b, p.pw = b := ⟨_, rfl⟩
  obtain ⟨xw, e_xw⟩ : ∃ b, q.pw = b := ⟨_, rfl⟩
  obtain ⟨s1, e_s1⟩ : ∃ b, (!hasB q.ph 1 || sameW q.pv p.pv) = b := ⟨_, rfl⟩
  obtain ⟨s2, e_s2⟩ : ∃ b, (!hasB q.ph 2 || sameW q.pg p.pg) = b := ⟨_, rfl⟩
  obtain ⟨s3, e_s3⟩ : ∃ b, (!hasB q.ph 4 || sameW q.pt p.pt) = b := ⟨_, rfl⟩
  obtain ⟨gn, e_gn⟩ : ∃ b, (!hasB q.ph 6 && !hasB q.ph 9) = b := ⟨_, rfl⟩
  obtain ⟨h32, e_h32⟩ : ∃ b, hasB q.ph 32 = b := ⟨_, rfl⟩
  obtain ⟨h16, e_h16⟩ : ∃ b, hasB q.ph 16 = b := ⟨_, rfl⟩
  obtain ⟨h8, e_h8⟩ : ∃ b, hasB q.ph 8 = b := ⟨_, rfl⟩
  obtain ⟨ha, e_ha⟩ : ∃ b, hasB q.ph 6 = b := ⟨_, rfl⟩
  obtain ⟨hb, e_hb⟩ : ∃ b, hasB p.ph 6 = b := ⟨_, rfl⟩
  rw [e_s1] at E1 ⊢
  have E1 := Lib.hid E1
  rw [e_s2] at E2 ⊢
  have E2 := Lib.hid E2
  rw [e_s3] at E3 ⊢
  have E3 := Lib.hid E3
  rw [e_gn] at CG ⊢
  have CG := Lib.hid CG
  rw [e_h32] at C32 ⊢
  have C32 := Lib.hid C32
  rw [e_h16] at C16 ⊢
  have C16 := Lib.hid C16
  rw [e_h8] at C8 ⊢
  have C8 := Lib.hid C8
  rw [e_ha] at CA ⊢
  have CA := Lib.hid CA
  rw [e_hb] at CB ⊢
  have CB := Lib.hid CB
  rw [e_xc, e_xe, e_ye, e_yw, e_xw]
  clear e_s1 e_s2 e_s3 e_gn e_h32 e_h16 e_h8 e_ha e_hb
  obtain ⟨R1, h_R1⟩ : ∃ b, (xc && h32) = b := ⟨_, rfl⟩
  rw [h_R1]
  have H1 := Lib.hid h_R1
  clear h_R1
  obtain ⟨R3, h_R3⟩ : ∃ b, (xe != ye && h16) = b := ⟨_, rfl⟩
  rw [h_R3]
  have H3 := Lib.hid h_R3
  clear h_R3
  obtain ⟨R7, h_R7⟩ : ∃ b, (ha != hb) = b := ⟨_, rfl⟩
  rw [h_R7]
  have H7 := Lib.hid h_R7
  clear h_R7
  unfold prpV at C32 C16 C8 CG CA CB E1 E2 E3
  go_enter Try.func32, Try.ntmps32
  go_upto_region 1 with fail
  obtain ⟨W1, hW1⟩ : ∃ W1, w.alloc (.cells (celP p) 26) = W1 := ⟨_, rfl⟩
  rw [hW1]
  obtain ⟨W2, hW2⟩ : ∃ W2, W1.alloc (.cells (celP q) 26) = W2 := ⟨_, rfl⟩
  have HS := Lib.hid (S2.new hW1 hW2)
  obtain ⟨a0, a16, a17, a18, d0, d16, d17, d18⟩ := HS.out.cs
  rw [hW2]
  clear hW1 hW2
  go_cut [5] (fun c wx => c = .bool R1 ∧ S2 w wx p q)
  case first =>
    cases xc
    · skip
      go_wp2
      go_meet
      case rel => exact ⟨by rw [← H1.out]; rfl, HS.out⟩
    · skip
      cases h32
      · skip
        go_wp2_with (first | (refine ldP (k := 9) HS.out.k2 rfl (by kernel_rfl) rfl rfl ?_))
        with_reducible refine (C32.out _).mono ?_
        rintro e w2 ⟨rfl, b2⟩
        have HT := HS; clear HS
        have HS := Lib.hid (HT.out.step b2)
        clear HT b2 a0 a16 a17 a18 d0 d16 d17 d18
        obtain ⟨a0, a16, a17, a18, d0, d16, d17, d18⟩ := HS.out.cs
        go_wp2
        go_meet
        case rel => exact ⟨by rw [← H1.out]; rfl, HS.out⟩
      · skip
        go_wp2_with (first | (refine ldP (k := 9) HS.out.k2 rfl (by kernel_rfl) rfl rfl ?_))
        with_reducible refine (C32.out _).mono ?_
        rintro e w2 ⟨rfl, b2⟩
        have HT := HS; clear HS
        have HS := Lib.hid (HT.out.step b2)
        clear HT b2 a0 a16 a17 a18 d0 d16 d17 d18
        obtain ⟨a0, a16, a17, a18, d0, d16, d17, d18⟩ := HS.out.cs
        go_wp2
        go_meet
        case rel => exact ⟨by rw [← H1.out]; rfl, HS.out⟩
  case rest =>
  clear HS a0 a16 a17 a18 d0 d16 d17 d18
  obtain ⟨rfl, hs⟩ := hcut
  have HS := Lib.hid hs
  clear hs
  obtain ⟨a0, a16, a17, a18, d0, d16, d17, d18⟩ := HS.out.cs
  cases R1
  case true =>
    go_wp2
    go_ret
    exact ⟨by simp, HS.out.b⟩
  case false =>
  go_upto_region 3 with fail
  go_cut [12] (fun c wx => c = .bool R3 ∧ S2 w wx p q)
  case first =>
    cases xe
    · skip
      cases ye
      · skip
        go_wp2
        go_meet
        case rel => exact ⟨by rw [← H3.out]; rfl, HS.out⟩
      · skip
        cases h16
        · skip
          go_wp2_with (first | (refine ldP (k := 19) HS.out.k2 rfl (by kernel_rfl) rfl rfl ?_))
          with_reducible refine (C16.out _).mono ?_
          rintro e w2 ⟨rfl, b2⟩
          have HT := HS; clear HS
          have HS := Lib.hid (HT.out.step b2)
          clear HT b2 a0 a16 a17 a18 d0 d16 d17 d18
          obtain ⟨a0, a16, a17, a18, d0, d16, d17, d18⟩ := HS.out.cs
          go_wp2
          go_meet
          case rel => exact ⟨by rw [← H3.out]; rfl, HS.out⟩
        · skip
          go_wp2_with (first | (refine ldP (k := 19) HS.out.k2 rfl (by kernel_rfl) rfl rfl ?_))
          with_reducible refine (C16.out _).mono ?_
          rintro e w2 ⟨rfl, b2⟩
          have HT := HS; clear HS
          have HS := Lib.hid (HT.out.step b2)
          clear HT b2 a0 a16 a17 a18 d0 d16 d17 d18
          obtain ⟨a0, a16, a17, a18, d0, d16, d17, d18⟩ := HS.out.cs
          go_wp2
          go_meet
          case rel => exact ⟨by rw [← H3.out]; rfl, HS.out⟩
    · skip
      cases ye
      · skip
        cases h16
        · skip
          go_wp2_with (first | (refine ldP (k := 19) HS.out.k2 rfl (by kernel_rfl) rfl rfl ?_))
          with_reducible refine (C16.out _).mono ?_
          rintro e w2 ⟨rfl, b2⟩
          have HT := HS; clear HS
          have HS := Lib.hid (HT.out.step b2)
          clear HT b2 a0 a16 a17 a18 d0 d16 d17 d18
          obtain ⟨a0, a16, a17, a18, d0, d16, d17, d18⟩ := HS.out.cs
          go_wp2
          go_meet
          case rel => exact ⟨by rw [← H3.out]; rfl, HS.out⟩
        · skip
          go_wp2_with (first | (refine ldP (k := 19) HS.out.k2 rfl (by kernel_rfl) rfl rfl ?_))
          with_reducible refine (C16.out _).mono ?_
          rintro e w2 ⟨rfl, b2⟩
          have HT := HS; clear HS
          have HS := Lib.hid (HT.out.step b2)
          clear HT b2 a0 a16 a17 a18 d0 d16 d17 d18
          obtain ⟨a0, a16, a17, a18, d0, d16, d17, d18⟩ := HS.out.cs
          go_wp2
          go_meet
          case rel => exact ⟨by rw [← H3.out]; rfl, HS.out⟩
      · skip
        go_wp2
        go_meet
        case rel => exact ⟨by rw [← H3.out]; rfl, HS.out⟩
  case rest =>
  clear HS a0 a16 a17 a18 d0 d16 d17 d18
  obtain ⟨rfl, hs⟩ := hcut
  have HS := Lib.hid hs
  clear hs
  obtain ⟨a0, a16, a17, a18, d0, d16, d17, d18⟩ := HS.out.cs
  cases R3
  case true =>
    go_wp2
    go_ret
    exact ⟨by simp, HS.out.b⟩
  case false =>
  clear C32 C16 H1 H3
  go_upto_region 5 with fail
  cases gn
  · skip
    go_wp2_with (first | (refine ldP (k := 23) HS.out.k2 rfl (by kernel_rfl) rfl rfl ?_))
    with_reducible refine (CG.out _).mono ?_
    rintro e w2 ⟨rfl, b2⟩
    have HT := HS; clear HS
    have HS := Lib.hid (HT.out.step b2)
    clear HT b2 a0 a16 a17 a18 d0 d16 d17 d18
    obtain ⟨a0, a16, a17, a18, d0, d16, d17, d18⟩ := HS.out.cs
    go_upto_region 7 with fail
    go_cut [25] (fun c wx => c = .bool R7 ∧ S2 w wx p q)
    case first =>
      obtain ⟨a0, a16, a17, a18, d0, d16, d17, d18⟩ := HS.out.cs
      refine wp_region_held_drew (S := fun wx => S2 w wx p q) (by kernel_rfl) (HS.out.drew) (fun hHeld => ?_)
      clear HS a0 a16 a17 a18 d0 d16 d17 d18
      refine take_s (i := 0) rfl (by kernel_rfl) (by kernel_rfl) (by kernel_rfl) (fun _ _ _ h => h) (Or.inl ⟨by rfl, fun w hS => ldP_run hS.k2 rfl rfl⟩) rfl (by assumption) ?_; simp only [lset]
      refine take_s (i := 2) rfl (by kernel_rfl) (by kernel_rfl) (by kernel_rfl) (fun _ _ _ h => h) (Or.inl ⟨by rfl, fun w hS => ldP_run hS.k rfl rfl⟩) rfl (by assumption) ?_; simp only [lset]
      cases ha
      · skip
        refine call_s (i := 1) (by kernel_rfl) rfl rfl (by rfl) (fun K hK => ?_)
        go_simp
        with_reducible refine (CA.out _).mono ?_
        rintro e w2 ⟨rfl, b2⟩
        have hHe2 := hHeld.step b2
        clear hHeld b2
        refine hK.out _ _ hHe2 ?_; clear hK K; simp only [lset]
        have hHeld := hHe2; clear hHe2
        cases hb
        · skip
          refine call_s (i := 3) (by kernel_rfl) rfl rfl (by rfl) (fun K hK => ?_)
          go_simp
          with_reducible refine (CB.out _).mono ?_
          rintro e w2 ⟨rfl, b2⟩
          have hHe2 := hHeld.step b2
          clear hHeld b2
          refine hK.out _ _ hHe2 ?_; clear hK K; simp only [lset]
          have hHeld := hHe2; clear hHe2
          refine take_s (i := 4) rfl (by kernel_rfl) (by kernel_rfl) (by kernel_rfl) (fun _ _ _ h => h) (Or.inl ⟨by rfl, by (intro w hSw; go_simp; try with_reducible rfl)⟩) rfl (by assumption) ?_; simp only [lset]
          refine take_s (i := 5) rfl (by kernel_rfl) (by kernel_rfl) (by kernel_rfl) (fun _ _ _ h => h) (Or.inl ⟨by rfl, by (intro w hSw; go_simp; try with_reducible rfl)⟩) rfl (by assumption) ?_; simp only [lset]
          refine wpAnyH_done (by kernel_rfl) ?_ _
          have HS := Lib.hid hHeld
          clear hHeld
          go_wp2
          go_meet
          case rel => exact ⟨by rw [← H7.out]; rfl, HS.out⟩
        · skip
          refine call_s (i := 3) (by kernel_rfl) rfl rfl (by rfl) (fun K hK => ?_)
          go_simp
          with_reducible refine (CB.out _).mono ?_
          rintro e w2 ⟨rfl, b2⟩
          have hHe2 := hHeld.step b2
          clear hHeld b2
          refine hK.out _ _ hHe2 ?_; clear hK K; simp only [lset]
          have hHeld := hHe2; clear hHe2
          refine take_s (i := 4) rfl (by kernel_rfl) (by kernel_rfl) (by kernel_rfl) (fun _ _ _ h => h) (Or.inl ⟨by rfl, by (intro w hSw; go_simp; try with_reducible rfl)⟩) rfl (by assumption) ?_; simp only [lset]
          refine take_s (i := 5) rfl (by kernel_rfl) (by kernel_rfl) (by kernel_rfl) (fun _ _ _ h => h) (Or.inl ⟨by rfl, by (intro w hSw; go_simp; try with_reducible rfl)⟩) rfl (by assumption) ?_; simp only [lset]
          refine wpAnyH_done (by kernel_rfl) ?_ _
          have HS := Lib.hid hHeld
          clear hHeld
          go_wp2
          go_meet
          case rel => exact ⟨by rw [← H7.out]; rfl, HS.out⟩
      · skip
        refine call_s (i := 1) (by kernel_rfl) rfl rfl (by rfl) (fun K hK => ?_)
        go_simp
        with_reducible refine (CA.out _).mono ?_
        rintro e w2 ⟨rfl, b2⟩
        have hHe2 := hHeld.step b2
        clear hHeld b2
        refine hK.out _ _ hHe2 ?_; clear hK K; simp only [lset]
        have hHeld := hHe2; clear hHe2
        cases hb
        · skip
          refine call_s (i := 3) (by kernel_rfl) rfl rfl (by rfl) (fun K hK => ?_)
          go_simp
          with_reducible refine (CB.out _).mono ?_
          rintro e w2 ⟨rfl, b2⟩
          have hHe2 := hHeld.step b2
          clear hHeld b2
          refine hK.out _ _ hHe2 ?_; clear hK K; simp only [lset]
          have hHeld := hHe2; clear hHe2
          refine take_s (i := 4) rfl (by kernel_rfl) (by kernel_rfl) (by kernel_rfl) (fun _ _ _ h => h) (Or.inl ⟨by rfl, by (intro w hSw; go_simp; try with_reducible rfl)⟩) rfl (by assumption) ?_; simp only [lset]
          refine take_s (i := 5) rfl (by kernel_rfl) (by kernel_rfl) (by kernel_rfl) (fun _ _ _ h => h) (Or.inl ⟨by rfl, by (intro w hSw; go_simp; try with_reducible rfl)⟩) rfl (by assumption) ?_; simp only [lset]
          refine wpAnyH_done (by kernel_rfl) ?_ _
          have HS := Lib.hid hHeld
          clear hHeld
          go_wp2
          go_meet
          case rel => exact ⟨by rw [← H7.out]; rfl, HS.out⟩
        · skip
          refine call_s (i := 3) (by kernel_rfl) rfl rfl (by rfl) (fun K hK => ?_)
          go_simp
          with_reducible refine (CB.out _).mono ?_
          rintro e w2 ⟨rfl, b2⟩
          have hHe2 := hHeld.step b2
          clear hHeld b2
          refine hK.out _ _ hHe2 ?_; clear hK K; simp only [lset]
          have hHeld := hHe2; clear hHe2
          refine take_s (i := 4) rfl (by kernel_rfl) (by kernel_rfl) (by kernel_rfl) (fun _ _ _ h => h) (Or.inl ⟨by rfl, by (intro w hSw; go_simp; try with_reducible rfl)⟩) rfl (by assumption) ?_; simp only [lset]
          refine take_s (i := 5) rfl (by kernel_rfl) (by kernel_rfl) (by kernel_rfl) (fun _ _ _ h => h) (Or.inl ⟨by rfl, by (intro w hSw; go_simp; try with_reducible rfl)⟩) rfl (by assumption) ?_; simp only [lset]
          refine wpAnyH_done (by kernel_rfl) ?_ _
          have HS := Lib.hid hHeld
          clear hHeld
          go_wp2
          go_meet
          case rel => exact ⟨by rw [← H7.out]; rfl, HS.out⟩
    case rest =>
    clear HS
    obtain ⟨rfl, hs⟩ := hcut
    have HS := Lib.hid hs
    clear hs
    obtain ⟨a0, a16, a17, a18, d0, d16, d17, d18⟩ := HS.out.cs
    cases R7
    case true =>
      go_wp2
      go_ret
      exact ⟨by simp, HS.out.b⟩
    case false =>
    go_upto_region 9 with fail
    cases ha
    · skip
      go_wp2_with (first | (refine ldP (k := 32) HS.out.k2 rfl (by kernel_rfl) rfl rfl ?_))
      with_reducible refine (CA.out _).mono ?_
      rintro e w2 ⟨rfl, b2⟩
      have HT := HS; clear HS
      have HS := Lib.hid (HT.out.step b2)
      clear HT b2 a0 a16 a17 a18 d0 d16 d17 d18
      obtain ⟨a0, a16, a17, a18, d0, d16, d17, d18⟩ := HS.out.cs
      cases yw
      · skip
        cases xw
        · skip
          cases s1
          · skip
            go_wp2_with (first | (refine ldP (k := 59) HS.out.k2 rfl (by kernel_rfl) rfl rfl ?_) | (refine ldV (k := 61) (off := 1) (v := q.pv) HS.out.k2 rfl rfl (by omega) (by kernel_rfl) rfl rfl ?_) | (refine ldV (k := 63) (off := 1) (v := p.pv) HS.out.k rfl rfl (by omega) (by kernel_rfl) rfl rfl ?_))
            with_reducible refine (E1.out _).mono ?_
            rintro e w2 ⟨rfl, b2⟩
            have HT := HS; clear HS
            have HS := Lib.hid (HT.out.step b2)
            clear HT b2 a0 a16 a17 a18 d0 d16 d17 d18
            obtain ⟨a0, a16, a17, a18, d0, d16, d17, d18⟩ := HS.out.cs
            go_wp2
            go_ret
            exact ⟨by simp, HS.out.b⟩
          · skip
            go_wp2_with (first | (refine ldP (k := 59) HS.out.k2 rfl (by kernel_rfl) rfl rfl ?_) | (refine ldV (k := 61) (off := 1) (v := q.pv) HS.out.k2 rfl rfl (by omega) (by kernel_rfl) rfl rfl ?_) | (refine ldV (k := 63) (off := 1) (v := p.pv) HS.out.k rfl rfl (by omega) (by kernel_rfl) rfl rfl ?_))
            with_reducible refine (E1.out _).mono ?_
            rintro e w2 ⟨rfl, b2⟩
            have HT := HS; clear HS
            have HS := Lib.hid (HT.out.step b2)
            clear HT b2 a0 a16 a17 a18 d0 d16 d17 d18
            obtain ⟨a0, a16, a17, a18, d0, d16, d17, d18⟩ := HS.out.cs
            go_wp2
            go_ret
            exact ⟨by simp, HS.out.b⟩
        · skip
          cases h8
          · skip
            go_wp2_with (first | (refine ldP (k := 54) HS.out.k2 rfl (by kernel_rfl) rfl rfl ?_))
            with_reducible refine (C8.out _).mono ?_
            rintro e w2 ⟨rfl, b2⟩
            have HT := HS; clear HS
            have HS := Lib.hid (HT.out.step b2)
            clear HT b2 a0 a16 a17 a18 d0 d16 d17 d18
            obtain ⟨a0, a16, a17, a18, d0, d16, d17, d18⟩ := HS.out.cs
            cases s1
            · skip
              go_wp2_with (first | (refine ldP (k := 59) HS.out.k2 rfl (by kernel_rfl) rfl rfl ?_) | (refine ldV (k := 61) (off := 1) (v := q.pv) HS.out.k2 rfl rfl (by omega) (by kernel_rfl) rfl rfl ?_) | (refine ldV (k := 63) (off := 1) (v := p.pv) HS.out.k rfl rfl (by omega) (by kernel_rfl) rfl rfl ?_))
              with_reducible refine (E1.out _).mono ?_
              rintro e w2 ⟨rfl, b2⟩
              have HT := HS; clear HS
              have HS := Lib.hid (HT.out.step b2)
              clear HT b2 a0 a16 a17 a18 d0 d16 d17 d18
              obtain ⟨a0, a16, a17, a18, d0, d16, d17, d18⟩ := HS.out.cs
              go_wp2
              go_ret
              exact ⟨by simp, HS.out.b⟩
            · skip
              go_wp2_with (first | (refine ldP (k := 59) HS.out.k2 rfl (by kernel_rfl) rfl rfl ?_) | (refine ldV (k := 61) (off := 1) (v := q.pv) HS.out.k2 rfl rfl (by omega) (by kernel_rfl) rfl rfl ?_) | (refine ldV (k := 63) (off := 1) (v := p.pv) HS.out.k rfl rfl (by omega) (by kernel_rfl) rfl rfl ?_))
              with_reducible refine (E1.out _).mono ?_
              rintro e w2 ⟨rfl, b2⟩
              have HT := HS; clear HS
              have HS := Lib.hid (HT.out.step b2)
              clear HT b2 a0 a16 a17 a18 d0 d16 d17 d18
              obtain ⟨a0, a16, a17, a18, d0, d16, d17, d18⟩ := HS.out.cs
              go_wp2
              go_ret
              exact ⟨by simp, HS.out.b⟩
          · skip
            go_wp2_with (first | (refine ldP (k := 54) HS.out.k2 rfl (by kernel_rfl) rfl rfl ?_))
            with_reducible refine (C8.out _).mono ?_
            rintro e w2 ⟨rfl, b2⟩
            have HT := HS; clear HS
            have HS := Lib.hid (HT.out.step b2)
            clear HT b2 a0 a16 a17 a18 d0 d16 d17 d18
            obtain ⟨a0, a16, a17, a18, d0, d16, d17, d18⟩ := HS.out.cs
            go_wp2
            go_ret
            exact ⟨by simp, HS.out.b⟩
      · skip
        go_wp2
        go_ret
        exact ⟨by simp, HS.out.b⟩
    · skip
      go_wp2_with (first | (refine ldP (k := 32) HS.out.k2 rfl (by kernel_rfl) rfl rfl ?_))
      with_reducible refine (CA.out _).mono ?_
      rintro e w2 ⟨rfl, b2⟩
      have HT := HS; clear HS
      have HS := Lib.hid (HT.out.step b2)
      clear HT b2 a0 a16 a17 a18 d0 d16 d17 d18
      obtain ⟨a0, a16, a17, a18, d0, d16, d17, d18⟩ := HS.out.cs
      cases s2
      · skip
        go_wp2_with (first | (refine ldP (k := 34) HS.out.k2 rfl (by kernel_rfl) rfl rfl ?_) | (refine ldV (k := 36) (off := 6) (v := q.pg) HS.out.k2 rfl rfl (by omega) (by kernel_rfl) rfl rfl ?_) | (refine ldV (k := 38) (off := 6) (v := p.pg) HS.out.k rfl rfl (by omega) (by kernel_rfl) rfl rfl ?_))
        with_reducible refine (E2.out _).mono ?_
        rintro e w2 ⟨rfl, b2⟩
        have HT := HS; clear HS
        have HS := Lib.hid (HT.out.step b2)
        clear HT b2 a0 a16 a17 a18 d0 d16 d17 d18
        obtain ⟨a0, a16, a17, a18, d0, d16, d17, d18⟩ := HS.out.cs
        go_wp2
        go_ret
        exact ⟨by simp, HS.out.b⟩
      · skip
        go_wp2_with (first | (refine ldP (k := 34) HS.out.k2 rfl (by kernel_rfl) rfl rfl ?_) | (refine ldV (k := 36) (off := 6) (v := q.pg) HS.out.k2 rfl rfl (by omega) (by kernel_rfl) rfl rfl ?_) | (refine ldV (k := 38) (off := 6) (v := p.pg) HS.out.k rfl rfl (by omega) (by kernel_rfl) rfl rfl ?_))
        with_reducible refine (E2.out _).mono ?_
        rintro e w2 ⟨rfl, b2⟩
        have HT := HS; clear HS
        have HS := Lib.hid (HT.out.step b2)
        clear HT b2 a0 a16 a17 a18 d0 d16 d17 d18
        obtain ⟨a0, a16, a17, a18, d0, d16, d17, d18⟩ := HS.out.cs
        cases s3
        · skip
          go_wp2_with (first | (refine ldP (k := 41) HS.out.k2 rfl (by kernel_rfl) rfl rfl ?_) | (refine ldV (k := 43) (off := 11) (v := q.pt) HS.out.k2 rfl rfl (by omega) (by kernel_rfl) rfl rfl ?_) | (refine ldV (k := 45) (off := 11) (v := p.pt) HS.out.k rfl rfl (by omega) (by kernel_rfl) rfl rfl ?_))
          with_reducible refine (E3.out _).mono ?_
          rintro e w2 ⟨rfl, b2⟩
          have HT := HS; clear HS
          have HS := Lib.hid (HT.out.step b2)
          clear HT b2 a0 a16 a17 a18 d0 d16 d17 d18
          obtain ⟨a0, a16, a17, a18, d0, d16, d17, d18⟩ := HS.out.cs
          go_wp2
          go_ret
          exact ⟨by simp, HS.out.b⟩
        · skip
          go_wp2_with (first | (refine ldP (k := 41) HS.out.k2 rfl (by kernel_rfl) rfl rfl ?_) | (refine ldV (k := 43) (off := 11) (v := q.pt) HS.out.k2 rfl rfl (by omega) (by kernel_rfl) rfl rfl ?_) | (refine ldV (k := 45) (off := 11) (v := p.pt) HS.out.k rfl rfl (by omega) (by kernel_rfl) rfl rfl ?_))
          with_reducible refine (E3.out _).mono ?_
          rintro e w2 ⟨rfl, b2⟩
          have HT := HS; clear HS
          have HS := Lib.hid (HT.out.step b2)
          clear HT b2 a0 a16 a17 a18 d0 d16 d17 d18
          obtain ⟨a0, a16, a17, a18, d0, d16, d17, d18⟩ := HS.out.cs
          go_wp2
          go_ret
          exact ⟨by simp, HS.out.b⟩
  · skip
    go_wp2_with (first | (refine ldP (k := 23) HS.out.k2 rfl (by kernel_rfl) rfl rfl ?_))
    with_reducible refine (CG.out _).mono ?_
    rintro e w2 ⟨rfl, b2⟩
    have HT := HS; clear HS
    have HS := Lib.hid (HT.out.step b2)
    clear HT b2 a0 a16 a17 a18 d0 d16 d17 d18
    obtain ⟨a0, a16, a17, a18, d0, d16, d17, d18⟩ := HS.out.cs
    go_wp2
    go_ret
    exact ⟨by simp, HS.out.b⟩
end Go.Proofs.Ytlkgijinckhkkaa
