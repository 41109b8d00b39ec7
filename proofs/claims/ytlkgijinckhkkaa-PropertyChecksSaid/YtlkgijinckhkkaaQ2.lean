/-
  The program's over, Full, Same of descriptors.
-/
import Derived.Test.YtlkgijinckhkkaaQ1
import Derived.ChangeKeysEq
namespace Go.Proofs.Ytlkgijinckhkkaa
open Go.RowKit
/-- o, but for what p has. -/
def overP (o p : Prp) : Prp :=
  stp (hasB p.ph 32) (fun r => { r with pc := p.pc }) (stp (hasB p.ph 16) (fun r => { r with pe := p.pe }) (stp (hasB p.ph 8) (fun r => { r with pw := p.pw })
    (stp (hasB p.ph 4) (fun r => { r with pt := p.pt }) (stp (hasB p.ph 2) (fun r => { r with pg := p.pg }) (stp (hasB p.ph 1) (fun r => { r with pv := p.pv }) { o with ph := orB o.ph p.ph })))))
set_option maxRecDepth 100000 in
set_option maxHeartbeats 4000000 in
theorem gover_any (o p : Prp) (w : World) : Calls Try.prog 21 #[.agg (celP o), .agg (celP p)] w fun e w' => e = .returned (.agg (celP (overP o p))) ∧ Below w.heap.size w w' := by
  have C1 := fun W => ghas_any p 1 W
  have C2 := fun W => ghas_any p 2 W
  have C4 := fun W => ghas_any p 4 W
  have C8 := fun W => ghas_any p 8 W
  have C16 := fun W => ghas_any p 16 W
  have C32 := fun W => ghas_any p 32 W
  unfold overP
  obtain ⟨h1, e_h1⟩ : ∃ b, hasB p.ph 1 = b := ⟨_, rfl⟩
  obtain ⟨h2, e_h2⟩ : ∃ b, hasB p.ph 2 = b := ⟨_, rfl⟩
  obtain ⟨h4, e_h4⟩ : ∃ b, hasB p.ph 4 = b := ⟨_, rfl⟩
  obtain ⟨h8, e_h8⟩ : ∃ b, hasB p.ph 8 = b := ⟨_, rfl⟩
  obtain ⟨h16, e_h16⟩ : ∃ b, hasB p.ph 16 = b := ⟨_, rfl⟩
  obtain ⟨h32, e_h32⟩ : ∃ b, hasB p.ph 32 = b := ⟨_, rfl⟩
  rw [e_h1] at C1
  have C1 := Lib.hid C1
  rw [e_h2] at C2
  have C2 := Lib.hid C2
  rw [e_h4] at C4
  have C4 := Lib.hid C4
  rw [e_h8] at C8
  have C8 := Lib.hid C8
  rw [e_h16] at C16
  have C16 := Lib.hid C16
  rw [e_h32] at C32
  have C32 := Lib.hid C32
  rw [e_h1, e_h2, e_h4, e_h8, e_h16, e_h32]
  clear e_h1 e_h2 e_h4 e_h8 e_h16 e_h32
  obtain ⟨x, h_x⟩ : ∃ x, orB o.ph p.ph = x := ⟨_, rfl⟩
  rw [h_x]
  unfold orB at h_x
  obtain ⟨r0, h_r0⟩ : ∃ r : Prp, { o with ph := x } = r := ⟨_, rfl⟩
  rw [h_r0]
  obtain ⟨r1, h_r1⟩ : ∃ r, stp h1 (fun r => { r with pv := p.pv }) r0 = r := ⟨_, rfl⟩
  rw [h_r1]
  obtain ⟨r2, h_r2⟩ : ∃ r, stp h2 (fun r => { r with pg := p.pg }) r1 = r := ⟨_, rfl⟩
  rw [h_r2]
  obtain ⟨r3, h_r3⟩ : ∃ r, stp h4 (fun r => { r with pt := p.pt }) r2 = r := ⟨_, rfl⟩
  rw [h_r3]
  obtain ⟨r4, h_r4⟩ : ∃ r, stp h8 (fun r => { r with pw := p.pw }) r3 = r := ⟨_, rfl⟩
  rw [h_r4]
  obtain ⟨r5, h_r5⟩ : ∃ r, stp h16 (fun r => { r with pe := p.pe }) r4 = r := ⟨_, rfl⟩
  rw [h_r5]
  obtain ⟨r6, h_r6⟩ : ∃ r, stp h32 (fun r => { r with pc := p.pc }) r5 = r := ⟨_, rfl⟩
  rw [h_r6]
  have Hr0 := Lib.hid h_r0
  have Hr1 := Lib.hid h_r1
  have Hr2 := Lib.hid h_r2
  have Hr3 := Lib.hid h_r3
  have Hr4 := Lib.hid h_r4
  have Hr5 := Lib.hid h_r5
  have Hr6 := Lib.hid h_r6
  clear h_r0 h_r1 h_r2 h_r3 h_r4 h_r5 h_r6
  unfold prpV at C1 C2 C4 C8 C16 C32
  go_enter Try.func21, Try.ntmps21
  go_upto_region 1 with fail
  rw [celP_zero]
  obtain ⟨W1, hW1⟩ : ∃ W1, w.alloc (.cells (celP o) 26) = W1 := ⟨_, rfl⟩
  rw [hW1]
  obtain ⟨W2, hW2⟩ : ∃ W2, W1.alloc (.cells (celP p) 26) = W2 := ⟨_, rfl⟩
  rw [hW2]
  obtain ⟨W3, hW3⟩ : ∃ W3, W2.alloc (.cells (celP zPrp) 26) = W3 := ⟨_, rfl⟩
  have HS := Lib.hid (S3r.of (S3.new hW1 hW2 hW3))
  obtain ⟨a0, a16, a17, a18, d0, d16, d17, d18⟩ := HS.out.cs
  rw [hW3]
  clear hW1 hW2 hW3
  have HX := Lib.hid (HS.out.row1 r0)
  go_upto_if 12 with (first | (refine stI x HS.out.k rfl rfl rfl rfl rfl ?_; rw [Hr0.out]) | (refine ldP (k := 11) (show Blk (W3.setRow w.heap.size (celP r0)) (w.heap.size + 1) p from HX.out.k2) rfl (by kernel_rfl) rfl rfl ?_) | (go_at_call 28; with_reducible refine (C1.out _).mono ?_; rintro e w2 ⟨rfl, b2⟩))
  clear HS
  have HS := HX
  clear HX
  have HT := HS
  clear HS
  have HS := Lib.hid (HT.out.step b2)
  clear HT b2 a0 a16 a17 a18 d0 d16 d17 d18
  obtain ⟨a0, a16, a17, a18, d0, d16, d17, d18⟩ := HS.out.cs
  go_cut [] (fun wx => S3r w wx r1 p zPrp)
  case first =>
    cases h1
    · go_wp2
      go_meet
      case rel => (rw [← Hr1.out]; exact HS.out)
    · skip
      go_wp2_with (first | (refine ldV (k := 14) (off := 1) (v := p.pv) HS.out.k2 rfl rfl (by omega) (by kernel_rfl) rfl rfl ?_) | (refine stV 1 p.pv { r0 with pv := p.pv } HS.out.k rfl rfl rfl rfl rfl (by omega) rfl ?_))
      go_meet
      case rel => (rw [← Hr1.out]; exact HS.out.row1 _)
  case rest =>
  clear HS a0 a16 a17 a18 d0 d16 d17 d18
  have HS := Lib.hid hcut
  clear hcut
  obtain ⟨a0, a16, a17, a18, d0, d16, d17, d18⟩ := HS.out.cs
  go_upto_if 17 with (first | (refine ldP (k := 16) HS.out.k2 rfl (by kernel_rfl) rfl rfl ?_) | (go_at_call 28; with_reducible refine (C2.out _).mono ?_; rintro e w2 ⟨rfl, b2⟩))
  have HT := HS
  clear HS
  have HS := Lib.hid (HT.out.step b2)
  clear HT b2 a0 a16 a17 a18 d0 d16 d17 d18
  obtain ⟨a0, a16, a17, a18, d0, d16, d17, d18⟩ := HS.out.cs
  go_cut [] (fun wx => S3r w wx r2 p zPrp)
  case first =>
    cases h2
    · go_wp2
      go_meet
      case rel => (rw [← Hr2.out]; exact HS.out)
    · skip
      go_wp2_with (first | (refine ldV (k := 19) (off := 6) (v := p.pg) HS.out.k2 rfl rfl (by omega) (by kernel_rfl) rfl rfl ?_) | (refine stV 6 p.pg { r1 with pg := p.pg } HS.out.k rfl rfl rfl rfl rfl (by omega) rfl ?_))
      go_meet
      case rel => (rw [← Hr2.out]; exact HS.out.row1 _)
  case rest =>
  clear HS a0 a16 a17 a18 d0 d16 d17 d18
  have HS := Lib.hid hcut
  clear hcut
  obtain ⟨a0, a16, a17, a18, d0, d16, d17, d18⟩ := HS.out.cs
  go_upto_if 22 with (first | (refine ldP (k := 21) HS.out.k2 rfl (by kernel_rfl) rfl rfl ?_) | (go_at_call 28; with_reducible refine (C4.out _).mono ?_; rintro e w2 ⟨rfl, b2⟩))
  have HT := HS
  clear HS
  have HS := Lib.hid (HT.out.step b2)
  clear HT b2 a0 a16 a17 a18 d0 d16 d17 d18
  obtain ⟨a0, a16, a17, a18, d0, d16, d17, d18⟩ := HS.out.cs
  go_cut [] (fun wx => S3r w wx r3 p zPrp)
  case first =>
    cases h4
    · go_wp2
      go_meet
      case rel => (rw [← Hr3.out]; exact HS.out)
    · skip
      go_wp2_with (first | (refine ldV (k := 24) (off := 11) (v := p.pt) HS.out.k2 rfl rfl (by omega) (by kernel_rfl) rfl rfl ?_) | (refine stV 11 p.pt { r2 with pt := p.pt } HS.out.k rfl rfl rfl rfl rfl (by omega) rfl ?_))
      go_meet
      case rel => (rw [← Hr3.out]; exact HS.out.row1 _)
  case rest =>
  clear HS a0 a16 a17 a18 d0 d16 d17 d18
  have HS := Lib.hid hcut
  clear hcut
  obtain ⟨a0, a16, a17, a18, d0, d16, d17, d18⟩ := HS.out.cs
  go_upto_if 27 with (first | (refine ldP (k := 26) HS.out.k2 rfl (by kernel_rfl) rfl rfl ?_) | (go_at_call 28; with_reducible refine (C8.out _).mono ?_; rintro e w2 ⟨rfl, b2⟩))
  have HT := HS
  clear HS
  have HS := Lib.hid (HT.out.step b2)
  clear HT b2 a0 a16 a17 a18 d0 d16 d17 d18
  obtain ⟨a0, a16, a17, a18, d0, d16, d17, d18⟩ := HS.out.cs
  go_cut [] (fun wx => S3r w wx r4 p zPrp)
  case first =>
    cases h8
    · go_wp2
      go_meet
      case rel => (rw [← Hr4.out]; exact HS.out)
    · skip
      go_wp2_with (refine stB 16 p.pw { r3 with pw := p.pw } HS.out.k rfl rfl rfl rfl rfl (by omega) rfl ?_)
      go_meet
      case rel => (rw [← Hr4.out]; exact HS.out.row1 _)
  case rest =>
  clear HS a0 a16 a17 a18 d0 d16 d17 d18
  have HS := Lib.hid hcut
  clear hcut
  obtain ⟨a0, a16, a17, a18, d0, d16, d17, d18⟩ := HS.out.cs
  go_upto_if 32 with (first | (refine ldP (k := 31) HS.out.k2 rfl (by kernel_rfl) rfl rfl ?_) | (go_at_call 28; with_reducible refine (C16.out _).mono ?_; rintro e w2 ⟨rfl, b2⟩))
  have HT := HS
  clear HS
  have HS := Lib.hid (HT.out.step b2)
  clear HT b2 a0 a16 a17 a18 d0 d16 d17 d18
  obtain ⟨a0, a16, a17, a18, d0, d16, d17, d18⟩ := HS.out.cs
  go_cut [] (fun wx => S3r w wx r5 p zPrp)
  case first =>
    cases h16
    · go_wp2
      go_meet
      case rel => (rw [← Hr5.out]; exact HS.out)
    · skip
      go_wp2_with (refine stB 17 p.pe { r4 with pe := p.pe } HS.out.k rfl rfl rfl rfl rfl (by omega) rfl ?_)
      go_meet
      case rel => (rw [← Hr5.out]; exact HS.out.row1 _)
  case rest =>
  clear HS a0 a16 a17 a18 d0 d16 d17 d18
  have HS := Lib.hid hcut
  clear hcut
  obtain ⟨a0, a16, a17, a18, d0, d16, d17, d18⟩ := HS.out.cs
  go_upto_if 37 with (first | (refine ldP (k := 36) HS.out.k2 rfl (by kernel_rfl) rfl rfl ?_) | (go_at_call 28; with_reducible refine (C32.out _).mono ?_; rintro e w2 ⟨rfl, b2⟩))
  have HT := HS
  clear HS
  have HS := Lib.hid (HT.out.step b2)
  clear HT b2 a0 a16 a17 a18 d0 d16 d17 d18
  obtain ⟨a0, a16, a17, a18, d0, d16, d17, d18⟩ := HS.out.cs
  go_cut [] (fun wx => S3r w wx r6 p zPrp)
  case first =>
    cases h32
    · go_wp2
      go_meet
      case rel => (rw [← Hr6.out]; exact HS.out)
    · skip
      go_wp2_with (refine stB 18 p.pc { r5 with pc := p.pc } HS.out.k rfl rfl rfl rfl rfl (by omega) rfl ?_)
      go_meet
      case rel => (rw [← Hr6.out]; exact HS.out.row1 _)
  case rest =>
  clear HS a0 a16 a17 a18 d0 d16 d17 d18
  have HS := Lib.hid hcut
  clear hcut
  have HR := Lib.hid (HS.out.row3 r6)
  go_wp2_with (first | (refine ldP (k := 41) HS.out.k rfl (by kernel_rfl) rfl rfl ?_) | (refine stP (p := r6) HS.out.kr rfl rfl rfl rfl rfl ?_))
  refine prR HR.out.kr rfl rfl rfl ⟨rfl, HR.out.b⟩
set_option maxRecDepth 100000 in
set_option maxHeartbeats 4000000 in
theorem gFull_raw (p : Prp) (w : World) : Calls Try.prog 14 #[.agg (celP p)] w fun e w' => e = .returned (.agg (celP (overP (bareP (hasB p.ph 6)) p))) ∧ Below w.heap.size w w' := by
  have CA := fun W => gAccessor_any p W
  have CB := fun W => gbare_any (hasB p.ph 6) W
  have CO := fun W => gover_any (bareP (hasB p.ph 6)) p W
  unfold prpV at CA
  obtain ⟨ha, e_ha⟩ : ∃ b, hasB p.ph 6 = b := ⟨_, rfl⟩
  rw [e_ha] at CA CB CO ⊢
  clear e_ha
  obtain ⟨B, e_B⟩ : ∃ r, bareP ha = r := ⟨_, rfl⟩
  rw [e_B] at CB CO ⊢
  clear e_B
  obtain ⟨R, e_R⟩ : ∃ r, overP B p = r := ⟨_, rfl⟩
  rw [e_R] at CO ⊢
  clear e_R
  have CA := Lib.hid CA
  have CB := Lib.hid CB
  have CO := Lib.hid CO
  go_enter Try.func14, Try.ntmps14
  go_upto_region 1 with fail
  rw [celP_zero]
  obtain ⟨W1, hW1⟩ : ∃ W1, w.alloc (.cells (celP p) 26) = W1 := ⟨_, rfl⟩
  rw [hW1]
  obtain ⟨W2, hW2⟩ : ∃ W2, W1.alloc (.cells (celP zPrp) 26) = W2 := ⟨_, rfl⟩
  have HS := Lib.hid (S2.new hW1 hW2)
  rw [hW2]
  clear hW1 hW2
  refine wp_region_held_drew (S := fun wx => ∃ r, S2 w wx p r) (by kernel_rfl) ⟨_, HS.out.drew⟩ (fun hH => ?_)
  clear hH
  have hHeld := HS.out.drew
  clear HS
  refine take_s (i := 0) rfl (by kernel_rfl) (by kernel_rfl) (by kernel_rfl) (fun _ _ _ h => h) (Or.inl ⟨by rfl, fun w ⟨_, hS⟩ => ldP_run hS.k rfl rfl⟩) rfl ⟨_, hHeld⟩ ?_; simp only [lset]
  refine take_s (i := 3) rfl (by kernel_rfl) (by kernel_rfl) (by kernel_rfl) (fun _ _ _ h => h) (Or.inl ⟨by rfl, fun w ⟨_, hS⟩ => ldP_run hS.k rfl rfl⟩) rfl ⟨_, hHeld⟩ ?_; simp only [lset]
  refine call_s (i := 1) (by kernel_rfl) rfl rfl (by rfl) (fun K hK => ?_)
  go_simp
  with_reducible refine (CA.out _).mono ?_
  rintro e w2 ⟨rfl, b2⟩
  have hHe2 := hHeld.step b2
  clear hHeld b2
  refine hK.out _ _ ⟨_, hHe2⟩ ?_; clear hK K; simp only [lset]
  have hHeld := hHe2; clear hHe2
  refine call_s (i := 2) (by kernel_rfl) rfl rfl (by rfl) (fun K hK => ?_)
  go_simp
  with_reducible refine (CB.out _).mono ?_
  rintro e w2 ⟨rfl, b2⟩
  have hHe2 := hHeld.step b2
  clear hHeld b2
  refine hK.out _ _ ⟨_, hHe2⟩ ?_; clear hK K; simp only [lset]
  have hHeld := hHe2; clear hHe2
  refine call_s (i := 4) (by kernel_rfl) rfl rfl (by rfl) (fun K hK => ?_)
  go_simp
  with_reducible refine (CO.out _).mono ?_
  rintro e w2 ⟨rfl, b2⟩
  have hHe2 := hHeld.step b2
  clear hHeld b2
  refine hK.out _ _ ⟨_, hHe2⟩ ?_; clear hK K; simp only [lset]
  have hHeld := hHe2; clear hHe2
  refine storeP_s (i := 5) hHeld.k2 (by kernel_rfl) rfl rfl (by rfl) rfl rfl rfl ⟨_, hHeld.row2 _⟩ ?_
  refine wpAnyH_done (by kernel_rfl) ?_ _
  have HR := Lib.hid (hHeld.row2 R)
  go_wp2
  refine prR HR.out.k2 rfl rfl rfl ⟨rfl, HR.out.b⟩
def eqP (p q : Prp) : Bool := p.ph == q.ph && (eqW p.pv q.pv && (eqW p.pg q.pg && (eqW p.pt q.pt && (p.pw == q.pw && (p.pe == q.pe && p.pc == q.pc)))))
theorem part_val (t : TypeId) (ht : t = 24) (cs : Array Value) (off : Nat) (v : Val) (W : World) (h : cs.extract off (off + 5) = celV v) : (part t cs off).run Try.prog W = .ok (.agg (celV v)) W := by
  subst ht
  have hagg : (isAgg 24).run Try.prog W = .ok true W := by
    unfold isAgg
    rw [Sem.run_bind, run_underlying Try.underlying24 W]
    rfl
  have hsz : (sizeOf 24).run Try.prog W = .ok 5 W := by
    have : (Try.prog.info? 24).map (·.size) = some 5 := by kernel_rfl
    cases hq : Try.prog.info? 24 with
    | none => simp [hq] at this
    | some i =>
      have hs : i.size = 5 := by simpa [hq] using this
      simp [sizeOf, typeInfo, hq, hs, Sem.run_bind]
  unfold part
  rw [Sem.run_bind, hagg]
  simp only [Result.andThen_ok, if_true]
  rw [Sem.run_bind, hsz]
  simp only [Result.andThen_ok, h]
  rfl
set_option maxRecDepth 100000 in
set_option maxHeartbeats 1000000 in
theorem equalIn_prp (p q : Prp) (w : World) (d : Nat) : (Op.equalIn (d + 3) 26 (.agg (celP p)) (.agg (celP q))).run Try.prog w = .ok (eqP p q) w := by
  rw [run_equalIn_struct w (d + 2) 26 (celP p) (celP q) (by kernel_rfl) (by kernel_rfl)]
  have ei := fun (a b : Int) (W : World) => run_equalIn_int (P := Try.prog) W (d + 1) 3 .i64 .i64 a b Try.underlying3
  have eb := fun (a b : Bool) (W : World) => run_equalIn_bool' (P := Try.prog) W (d + 1) 4 a b Try.underlying4
  have ev := fun (x y : Val) (W : World) => equalIn_val x y W d
  have p1 := fun (p : Prp) (W : World) => part_val 24 rfl (celP p) 1 p.pv W rfl
  have p2 := fun (p : Prp) (W : World) => part_val 24 rfl (celP p) 6 p.pg W rfl
  have p3 := fun (p : Prp) (W : World) => part_val 24 rfl (celP p) 11 p.pt W rfl
  have q0 := fun (p : Prp) (W : World) => show (part 3 (celP p) 0).run Try.prog W = .ok (.int .i64 p.ph) W from run_part_plain W (by kernel_rfl) rfl
  have q1 := fun (p : Prp) (W : World) => show (part 4 (celP p) 16).run Try.prog W = .ok (.bool p.pw) W from run_part_plain W (by kernel_rfl) rfl
  have q2 := fun (p : Prp) (W : World) => show (part 4 (celP p) 17).run Try.prog W = .ok (.bool p.pe) W from run_part_plain W (by kernel_rfl) rfl
  have q3 := fun (p : Prp) (W : World) => show (part 4 (celP p) 18).run Try.prog W = .ok (.bool p.pc) W from run_part_plain W (by kernel_rfl) rfl
  rw [show Try.prog.fieldsOf 26 = _ from by unfold Program.fieldsOf; rw [Try.underlying26]]
  unfold eqP
  simp only [Op.eqFields, ne_eq, Sem.run_bind, Sem.run_ite, p1, p2, p3, q0, q1, q2, q3, Result.andThen_ok, ei, eb, ev]
  clear ei eb ev p1 p2 p3 q0 q1 q2 q3
  have n0 : ¬ ("Has" = "_") := by decide
  have n1 : ¬ ("Value" = "_") := by decide
  have n2 : ¬ ("Get" = "_") := by decide
  have n3 : ¬ ("Set" = "_") := by decide
  have n4 : ¬ ("Writable" = "_") := by decide
  have n5 : ¬ ("Enumerable" = "_") := by decide
  have n6 : ¬ ("Configurable" = "_") := by decide
  rw [if_pos n0, if_pos n1, if_pos n2, if_pos n3, if_pos n4, if_pos n5, if_pos n6]
  cases (p.ph == q.ph)
  · rfl
  cases eqW p.pv q.pv
  · rfl
  cases eqW p.pg q.pg
  · rfl
  cases eqW p.pt q.pt
  · rfl
  cases (p.pw == q.pw)
  · rfl
  cases (p.pe == q.pe)
  · rfl
  cases (p.pc == q.pc)
  · rfl
  rfl
theorem eql_prps (p q : Prp) (w : World) : (binOp .eql 26 (.agg (celP p)) (.agg (celP q))).run Try.prog w = .ok (.bool (eqP p q)) w := by
  rw [run_eql_struct, equalIn_prp]
  rfl
theorem eqW_zz : eqW zVal zVal = true := by decide +kernel
theorem eq_noV (p q : Prp) : (bitsV p.pv q.pv && bitsV p.pg q.pg && bitsV p.pt q.pt && eqP (noVP p) (noVP q)) = samePB p q := by
  unfold eqP noVP samePB
  dsimp only
  rw [eqW_zz]
  cases (p.ph == q.ph) <;> cases bitsV p.pv q.pv <;> cases bitsV p.pg q.pg <;> cases bitsV p.pt q.pt <;> simp [Bool.and_assoc]
set_option maxRecDepth 100000 in
set_option maxHeartbeats 4000000 in
theorem gSame_any (p q : Prp) (w : World) : Calls Try.prog 20 #[prpV p, prpV q] w fun e w' => e = .returned (.bool (samePB p q)) ∧ Below w.heap.size w w' := by
  have B1 := fun W => galike_any p.pv q.pv W
  have B2 := fun W => galike_any p.pg q.pg W
  have B3 := fun W => galike_any p.pt q.pt W
  have CP := fun W => gwithoutValues_any p W
  have CQ := fun W => gwithoutValues_any q W
  have HE := fun W => eql_prps (noVP p) (noVP q) W
  rw [← eq_noV]
  obtain ⟨A, e_A⟩ : ∃ r, noVP p = r := ⟨_, rfl⟩
  obtain ⟨B, e_B⟩ : ∃ r, noVP q = r := ⟨_, rfl⟩
  rw [e_A] at CP HE ⊢
  rw [e_B] at CQ HE ⊢
  clear e_A e_B
  obtain ⟨E, e_E⟩ : ∃ b, eqP A B = b := ⟨_, rfl⟩
  rw [e_E] at HE ⊢
  clear e_E
  obtain ⟨v1, e_v1⟩ : ∃ b, bitsV p.pv q.pv = b := ⟨_, rfl⟩
  obtain ⟨v2, e_v2⟩ : ∃ b, bitsV p.pg q.pg = b := ⟨_, rfl⟩
  obtain ⟨v3, e_v3⟩ : ∃ b, bitsV p.pt q.pt = b := ⟨_, rfl⟩
  rw [e_v1] at B1 ⊢
  have B1 := Lib.hid B1
  rw [e_v2] at B2 ⊢
  have B2 := Lib.hid B2
  rw [e_v3] at B3 ⊢
  have B3 := Lib.hid B3
  clear e_v1 e_v2 e_v3
  have CP := Lib.hid CP
  have CQ := Lib.hid CQ
  unfold prpV
  go_enter Try.func20, Try.ntmps20
  go_upto_region 1 with fail
  obtain ⟨W1, hW1⟩ : ∃ W1, w.alloc (.cells (celP p) 26) = W1 := ⟨_, rfl⟩
  rw [hW1]
  obtain ⟨W2, hW2⟩ : ∃ W2, W1.alloc (.cells (celP q) 26) = W2 := ⟨_, rfl⟩
  have HS := Lib.hid (S2.new hW1 hW2)
  obtain ⟨a0, a16, a17, a18, d0, d16, d17, d18⟩ := HS.out.cs
  rw [hW2]
  clear hW1 hW2
  cases v1
  · skip
    go_wp2_with (first | (refine ldV (k := 6) (off := 1) (v := p.pv) HS.out.k rfl rfl (by omega) (by kernel_rfl) rfl rfl ?_) | (refine ldV (k := 8) (off := 1) (v := q.pv) HS.out.k2 rfl rfl (by omega) (by kernel_rfl) rfl rfl ?_))
    with_reducible refine (B1.out _).mono ?_
    rintro e w2 ⟨rfl, b2⟩
    have HT := HS; clear HS
    have HS := Lib.hid (HT.out.step b2)
    clear HT b2 a0 a16 a17 a18 d0 d16 d17 d18
    obtain ⟨a0, a16, a17, a18, d0, d16, d17, d18⟩ := HS.out.cs
    go_wp2
    go_ret
    exact ⟨by simp, HS.out.b⟩
  · skip
    go_wp2_with (first | (refine ldV (k := 6) (off := 1) (v := p.pv) HS.out.k rfl rfl (by omega) (by kernel_rfl) rfl rfl ?_) | (refine ldV (k := 8) (off := 1) (v := q.pv) HS.out.k2 rfl rfl (by omega) (by kernel_rfl) rfl rfl ?_))
    with_reducible refine (B1.out _).mono ?_
    rintro e w2 ⟨rfl, b2⟩
    have HT := HS; clear HS
    have HS := Lib.hid (HT.out.step b2)
    clear HT b2 a0 a16 a17 a18 d0 d16 d17 d18
    obtain ⟨a0, a16, a17, a18, d0, d16, d17, d18⟩ := HS.out.cs
    cases v2
    · skip
      go_wp2_with (first | (refine ldV (k := 13) (off := 6) (v := p.pg) HS.out.k rfl rfl (by omega) (by kernel_rfl) rfl rfl ?_) | (refine ldV (k := 15) (off := 6) (v := q.pg) HS.out.k2 rfl rfl (by omega) (by kernel_rfl) rfl rfl ?_))
      with_reducible refine (B2.out _).mono ?_
      rintro e w2 ⟨rfl, b2⟩
      have HT := HS; clear HS
      have HS := Lib.hid (HT.out.step b2)
      clear HT b2 a0 a16 a17 a18 d0 d16 d17 d18
      obtain ⟨a0, a16, a17, a18, d0, d16, d17, d18⟩ := HS.out.cs
      go_wp2
      go_ret
      exact ⟨by simp, HS.out.b⟩
    · skip
      go_wp2_with (first | (refine ldV (k := 13) (off := 6) (v := p.pg) HS.out.k rfl rfl (by omega) (by kernel_rfl) rfl rfl ?_) | (refine ldV (k := 15) (off := 6) (v := q.pg) HS.out.k2 rfl rfl (by omega) (by kernel_rfl) rfl rfl ?_))
      with_reducible refine (B2.out _).mono ?_
      rintro e w2 ⟨rfl, b2⟩
      have HT := HS; clear HS
      have HS := Lib.hid (HT.out.step b2)
      clear HT b2 a0 a16 a17 a18 d0 d16 d17 d18
      obtain ⟨a0, a16, a17, a18, d0, d16, d17, d18⟩ := HS.out.cs
      cases v3
      · skip
        go_wp2_with (first | (refine ldV (k := 21) (off := 11) (v := p.pt) HS.out.k rfl rfl (by omega) (by kernel_rfl) rfl rfl ?_) | (refine ldV (k := 23) (off := 11) (v := q.pt) HS.out.k2 rfl rfl (by omega) (by kernel_rfl) rfl rfl ?_))
        with_reducible refine (B3.out _).mono ?_
        rintro e w2 ⟨rfl, b2⟩
        have HT := HS; clear HS
        have HS := Lib.hid (HT.out.step b2)
        clear HT b2 a0 a16 a17 a18 d0 d16 d17 d18
        obtain ⟨a0, a16, a17, a18, d0, d16, d17, d18⟩ := HS.out.cs
        go_wp2
        go_ret
        exact ⟨by simp, HS.out.b⟩
      · skip
        go_wp2_with (first | (refine ldV (k := 21) (off := 11) (v := p.pt) HS.out.k rfl rfl (by omega) (by kernel_rfl) rfl rfl ?_) | (refine ldV (k := 23) (off := 11) (v := q.pt) HS.out.k2 rfl rfl (by omega) (by kernel_rfl) rfl rfl ?_))
        with_reducible refine (B3.out _).mono ?_
        rintro e w2 ⟨rfl, b2⟩
        have HT := HS; clear HS
        have HS := Lib.hid (HT.out.step b2)
        clear HT b2 a0 a16 a17 a18 d0 d16 d17 d18
        obtain ⟨a0, a16, a17, a18, d0, d16, d17, d18⟩ := HS.out.cs
        go_upto_region 3 with fail
        obtain ⟨a0, a16, a17, a18, d0, d16, d17, d18⟩ := HS.out.cs
        refine wp_region_held_drew (S := fun wx => S2 w wx p q) (by kernel_rfl) (HS.out.drew) (fun hHeld => ?_)
        clear HS a0 a16 a17 a18 d0 d16 d17 d18
        refine take_s (i := 0) rfl (by kernel_rfl) (by kernel_rfl) (by kernel_rfl) (fun _ _ _ h => h) (Or.inl ⟨by rfl, fun w hS => ldP_run hS.k rfl rfl⟩) rfl (by assumption) ?_; simp only [lset]
        refine take_s (i := 2) rfl (by kernel_rfl) (by kernel_rfl) (by kernel_rfl) (fun _ _ _ h => h) (Or.inl ⟨by rfl, fun w hS => ldP_run hS.k2 rfl rfl⟩) rfl (by assumption) ?_; simp only [lset]
        refine call_s (i := 1) (by kernel_rfl) rfl rfl (by rfl) (fun K hK => ?_)
        go_simp
        with_reducible refine (CP.out _).mono ?_
        rintro e w2 ⟨rfl, b2⟩
        have hHe2 := hHeld.step b2
        clear hHeld b2
        refine hK.out _ _ hHe2 ?_; clear hK K; simp only [lset]
        have hHeld := hHe2; clear hHe2
        refine call_s (i := 3) (by kernel_rfl) rfl rfl (by rfl) (fun K hK => ?_)
        go_simp
        with_reducible refine (CQ.out _).mono ?_
        rintro e w2 ⟨rfl, b2⟩
        have hHe2 := hHeld.step b2
        clear hHeld b2
        refine hK.out _ _ hHe2 ?_; clear hK K; simp only [lset]
        have hHeld := hHe2; clear hHe2
        refine take_s (i := 4) rfl (by kernel_rfl) (by kernel_rfl) (by kernel_rfl) (fun _ _ _ h => h) (Or.inl ⟨by rfl, by (intro w hSw; go_simp; try with_reducible rfl)⟩) rfl (by assumption) ?_; simp only [lset]
        refine take_s (i := 5) rfl (by kernel_rfl) (by kernel_rfl) (by kernel_rfl) (fun _ _ _ h => h) (Or.inl ⟨by rfl, by (intro w hSw; go_simp; try with_reducible rfl)⟩) rfl (by assumption) ?_; simp only [lset]
        refine wpAnyH_done (by kernel_rfl) ?_ _
        have HS := Lib.hid hHeld
        clear hHeld
        go_wp2
        go_ret
        exact ⟨by simp, HS.out.b⟩
end Go.Proofs.Ytlkgijinckhkkaa
