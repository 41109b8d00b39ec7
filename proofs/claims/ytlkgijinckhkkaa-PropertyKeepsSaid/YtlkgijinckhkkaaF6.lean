/-
  The reference's Same and fixed of two descriptors.
-/
import Derived.Test.YtlkgijinckhkkaaF5
namespace Go.Proofs.Ytlkgijinckhkkaa
open Go.RowKit
theorem ldP_run {o : Oper} {a : Act} {w : World} {x : Operand} {g : Nat} {p : Prp} (hg : Blk w g p) (ho : o.op = .load 26 x) (hx : a.eval x = .pointer (some ⟨g, 0, none⟩)) : (execOp a.eval o).run Try.prog w = .ok (.value (.agg (celP p))) w := by
  unfold execOp
  simp only [ho, hx, Instr.loadAt, Instr.sureAddr, Sem.run_bind, Sem.run_pure, Result.andThen_ok, run_loadVar_row w g 26 26 (celP p) (0, 0) _ hg Try.underlying26 rfl (by kernel_rfl)]
theorem ldV_run {o : Oper} {a : Act} {w : World} {x : Operand} {g off : Nat} {p : Prp} {v : Val} (hg : Blk w g p) (hv : (celP p).extract off (off + 5) = celV v) (hn : off + 5 ≤ 19) (ho : o.op = .load 24 x) (hx : a.eval x = .pointer (some ⟨g, off, none⟩)) : (execOp a.eval o).run Try.prog w = .ok (.value (valV v)) w := by
  unfold execOp
  simp only [ho, hx, Instr.loadAt, Instr.sureAddr, Sem.run_bind, Sem.run_pure, Result.andThen_ok, run_load_seg w g off 5 26 24 (celP p) (0, 0) _ hg Try.underlying24 rfl (by kernel_rfl) hn, hv]
  rfl
/-- Two parameters' blocks, and what lay there as it lay. -/
structure S2 (w W : World) (p q : Prp) : Prop where
  k : Blk W w.heap.size p
  k2 : Blk W (w.heap.size + 1) q
  l : w.heap.size + 1 < W.heap.size
  b : Below w.heap.size w W
theorem S2.new {w W1 W2 : World} {p q : Prp} (h : w.alloc (.cells (celP p) 26) = W1) (g : W1.alloc (.cells (celP q) 26) = W2) : S2 w W2 p q := by
  obtain ⟨a, b, c⟩ := blk_new h
  obtain ⟨a2, b2, c2⟩ := blk_new g
  rw [c] at a2
  exact ⟨a.below b2 (by omega), a2, by omega, below_le b b2⟩
theorem S2.step {w W W' : World} {p q : Prp} (h : S2 w W p q) (hb : Below W.heap.size W W') : S2 w W' p q :=
  ⟨h.k.below hb (by have := h.l; omega), h.k2.below hb h.l, Nat.lt_of_lt_of_le h.l hb.size, below_le h.b hb⟩
theorem S2.drew {w W : World} {p q : Prp} (h : S2 w W p q) : S2 w W.drew p q := ⟨h.k, h.k2, h.l, below_drewN' h.b 1⟩
theorem S1.drew {w W : World} {p : Prp} (h : S1 w W p) : S1 w W.drew p := ⟨h.k, h.l, below_drewN' h.b 1⟩
theorem S2.cs {w W : World} {p q : Prp} (h : S2 w W p q) : W.cell? ⟨w.heap.size, 0, none⟩ = some (.int .i64 p.ph) ∧ W.cell? ⟨w.heap.size, 16, none⟩ = some (.bool p.pw) ∧ W.cell? ⟨w.heap.size, 17, none⟩ = some (.bool p.pe) ∧ W.cell? ⟨w.heap.size, 18, none⟩ = some (.bool p.pc) ∧
    W.cell? ⟨w.heap.size + 1, 0, none⟩ = some (.int .i64 q.ph) ∧ W.cell? ⟨w.heap.size + 1, 16, none⟩ = some (.bool q.pw) ∧ W.cell? ⟨w.heap.size + 1, 17, none⟩ = some (.bool q.pe) ∧ W.cell? ⟨w.heap.size + 1, 18, none⟩ = some (.bool q.pc) :=
  ⟨h.k.cell rfl, h.k.cell rfl, h.k.cell rfl, h.k.cell rfl, h.k2.cell rfl, h.k2.cell rfl, h.k2.cell rfl, h.k2.cell rfl⟩
def samePB (p q : Prp) : Bool := p.ph == q.ph && bitsV p.pv q.pv && bitsV p.pg q.pg && bitsV p.pt q.pt && (p.pw == q.pw) && (p.pe == q.pe) && (p.pc == q.pc)
/-- May q be defined over p, which is not configurable? -/
def fixedB (p q : Prp) : Bool :=
  if (q.pc || (hasB q.ph 16 && q.pe != p.pe)) = true then false
  else if (!hasB q.ph 6 && !hasB q.ph 9) = true then true
  else if (hasB q.ph 6 != hasB p.ph 6) = true then false
  else if hasB q.ph 6 = true then (!hasB q.ph 2 || sameW q.pg p.pg) && (!hasB q.ph 4 || sameW q.pt p.pt)
  else p.pw || (!q.pw && (!hasB q.ph 1 || sameW q.pv p.pv))
set_option maxRecDepth 100000 in
set_option maxHeartbeats 1000000 in
theorem hSame_any (p q : Prp) (w : World) : Calls Try.prog 13 #[prpV p, prpV q] w fun e w' => e = .returned (.bool (samePB p q)) ∧ Below w.heap.size w w' := by
  have B1 := fun W => fBits_any p.pv q.pv W
  have B2 := fun W => fBits_any p.pg q.pg W
  have B3 := fun W => fBits_any p.pt q.pt W
  unfold samePB
  obtain ⟨h0, e_h0⟩ : ∃ b, (p.ph == q.ph) = b := ⟨_, rfl⟩
  obtain ⟨v1, e_v1⟩ : ∃ b, bitsV p.pv q.pv = b := ⟨_, rfl⟩
  obtain ⟨v2, e_v2⟩ : ∃ b, bitsV p.pg q.pg = b := ⟨_, rfl⟩
  obtain ⟨v3, e_v3⟩ : ∃ b, bitsV p.pt q.pt = b := ⟨_, rfl⟩
  obtain ⟨s8, e_s8⟩ : ∃ b, (p.pw == q.pw) = b := ⟨_, rfl⟩
  obtain ⟨s16, e_s16⟩ : ∃ b, (p.pe == q.pe) = b := ⟨_, rfl⟩
  obtain ⟨s32, e_s32⟩ : ∃ b, (p.pc == q.pc) = b := ⟨_, rfl⟩
  rw [e_v1] at B1
  have B1 := Lib.hid B1
  rw [e_v2] at B2
  have B2 := Lib.hid B2
  rw [e_v3] at B3
  have B3 := Lib.hid B3
  rw [e_h0, e_v1, e_v2, e_v3, e_s8, e_s16, e_s32]
  clear e_v1 e_v2 e_v3
  unfold prpV
  go_enter Try.func13, Try.ntmps13
  go_upto_region 1 with fail
  obtain ⟨W1, hW1⟩ : ∃ W1, w.alloc (.cells (celP p) 26) = W1 := ⟨_, rfl⟩
  rw [hW1]
  obtain ⟨W2, hW2⟩ : ∃ W2, W1.alloc (.cells (celP q) 26) = W2 := ⟨_, rfl⟩
  have HS := Lib.hid (S2.new hW1 hW2)
  obtain ⟨a0, a16, a17, a18, d0, d16, d17, d18⟩ := HS.out.cs
  rw [hW2]
  clear hW1 hW2
  cases h0
  · skip
    go_wp2
    go_ret
    exact ⟨by simp, HS.out.b⟩
  · skip
    cases v1
    · skip
      go_wp2_with (first | (refine ldV (k := 12) (off := 1) (v := p.pv) HS.out.k rfl rfl (by omega) (by kernel_rfl) rfl rfl ?_) | (refine ldV (k := 14) (off := 1) (v := q.pv) HS.out.k2 rfl rfl (by omega) (by kernel_rfl) rfl rfl ?_))
      with_reducible refine (B1.out _).mono ?_
      rintro e w2 ⟨rfl, b2⟩
      have HT := HS; clear HS
      have HS := Lib.hid (HT.out.step b2)
      clear HT b2 a0 a16 a17 a18 d0 d16 d17 d18
      obtain ⟨a0, a16, a17, a18, d0, d16, d17, d18⟩ := HS.out.cs
      go_wp2
      go_ret
      exact ⟨by simp, HS.out.b⟩
    · skip
      go_wp2_with (first | (refine ldV (k := 12) (off := 1) (v := p.pv) HS.out.k rfl rfl (by omega) (by kernel_rfl) rfl rfl ?_) | (refine ldV (k := 14) (off := 1) (v := q.pv) HS.out.k2 rfl rfl (by omega) (by kernel_rfl) rfl rfl ?_))
      with_reducible refine (B1.out _).mono ?_
      rintro e w2 ⟨rfl, b2⟩
      have HT := HS; clear HS
      have HS := Lib.hid (HT.out.step b2)
      clear HT b2 a0 a16 a17 a18 d0 d16 d17 d18
      obtain ⟨a0, a16, a17, a18, d0, d16, d17, d18⟩ := HS.out.cs
      cases v2
      · skip
        go_wp2_with (first | (refine ldV (k := 19) (off := 6) (v := p.pg) HS.out.k rfl rfl (by omega) (by kernel_rfl) rfl rfl ?_) | (refine ldV (k := 21) (off := 6) (v := q.pg) HS.out.k2 rfl rfl (by omega) (by kernel_rfl) rfl rfl ?_))
        with_reducible refine (B2.out _).mono ?_
        rintro e w2 ⟨rfl, b2⟩
        have HT := HS; clear HS
        have HS := Lib.hid (HT.out.step b2)
        clear HT b2 a0 a16 a17 a18 d0 d16 d17 d18
        obtain ⟨a0, a16, a17, a18, d0, d16, d17, d18⟩ := HS.out.cs
        go_wp2
        go_ret
        exact ⟨by simp, HS.out.b⟩
      · skip
        go_wp2_with (first | (refine ldV (k := 19) (off := 6) (v := p.pg) HS.out.k rfl rfl (by omega) (by kernel_rfl) rfl rfl ?_) | (refine ldV (k := 21) (off := 6) (v := q.pg) HS.out.k2 rfl rfl (by omega) (by kernel_rfl) rfl rfl ?_))
        with_reducible refine (B2.out _).mono ?_
        rintro e w2 ⟨rfl, b2⟩
        have HT := HS; clear HS
        have HS := Lib.hid (HT.out.step b2)
        clear HT b2 a0 a16 a17 a18 d0 d16 d17 d18
        obtain ⟨a0, a16, a17, a18, d0, d16, d17, d18⟩ := HS.out.cs
        cases v3
        · skip
          go_wp2_with (first | (refine ldV (k := 26) (off := 11) (v := p.pt) HS.out.k rfl rfl (by omega) (by kernel_rfl) rfl rfl ?_) | (refine ldV (k := 28) (off := 11) (v := q.pt) HS.out.k2 rfl rfl (by omega) (by kernel_rfl) rfl rfl ?_))
          with_reducible refine (B3.out _).mono ?_
          rintro e w2 ⟨rfl, b2⟩
          have HT := HS; clear HS
          have HS := Lib.hid (HT.out.step b2)
          clear HT b2 a0 a16 a17 a18 d0 d16 d17 d18
          obtain ⟨a0, a16, a17, a18, d0, d16, d17, d18⟩ := HS.out.cs
          go_wp2
          go_ret
          exact ⟨by simp, HS.out.b⟩
        · skip
          go_wp2_with (first | (refine ldV (k := 26) (off := 11) (v := p.pt) HS.out.k rfl rfl (by omega) (by kernel_rfl) rfl rfl ?_) | (refine ldV (k := 28) (off := 11) (v := q.pt) HS.out.k2 rfl rfl (by omega) (by kernel_rfl) rfl rfl ?_))
          with_reducible refine (B3.out _).mono ?_
          rintro e w2 ⟨rfl, b2⟩
          have HT := HS; clear HS
          have HS := Lib.hid (HT.out.step b2)
          clear HT b2 a0 a16 a17 a18 d0 d16 d17 d18
          obtain ⟨a0, a16, a17, a18, d0, d16, d17, d18⟩ := HS.out.cs
          cases s8
          · skip
            go_wp2
            go_ret
            exact ⟨by simp, HS.out.b⟩
          · skip
            cases s16
            · skip
              go_wp2
              go_ret
              exact ⟨by simp, HS.out.b⟩
            · skip
              go_wp2
              go_ret
              exact ⟨by simp, HS.out.b⟩
set_option maxRecDepth 100000 in
set_option maxHeartbeats 2000000 in
theorem hfixed_any (p q : Prp) (w : World) (hp1 : p.pv.vn < 18446744073709551616) (hp2 : p.pg.vn < 18446744073709551616) (hp3 : p.pt.vn < 18446744073709551616) (hq1 : q.pv.vn < 18446744073709551616) (hq2 : q.pg.vn < 18446744073709551616) (hq3 : q.pt.vn < 18446744073709551616) :
    Calls Try.prog 34 #[prpV p, prpV q] w fun e w' => e = .returned (.bool (fixedB p q)) ∧ Below w.heap.size w w' := by
  have C16 := fun W => hhas_any q 16 W
  have C2 := fun W => hhas_any q 2 W
  have C4 := fun W => hhas_any q 4 W
  have C1 := fun W => hhas_any q 1 W
  have CA := fun W => hAccessor_any q W
  have CD := fun W => hData_any q W
  have CB := fun W => hAccessor_any p W
  have E1 := fun W => fSame_any q.pv p.pv W hq1 hp1
  have E2 := fun W => fSame_any q.pg p.pg W hq2 hp2
  have E3 := fun W => fSame_any q.pt p.pt W hq3 hp3
  unfold fixedB
  clear hp1 hp2 hp3 hq1 hq2 hq3
  obtain ⟨xc, e_xc⟩ : ∃ b, q.pc = b := ⟨_, rfl⟩
  obtain ⟨xe, e_xe⟩ : ∃ b, q.pe = b := ⟨_, rfl⟩
  obtain ⟨ye, e_ye⟩ : ∃ b, p.pe = b := ⟨_, rfl⟩
  obtain ⟨yw, e_yw⟩ : ∃ b, p.pw = b := ⟨_, rfl⟩
  obtain ⟨xw, e_xw⟩ : ∃ b, q.pw = b := ⟨_, rfl⟩
  obtain ⟨h16, e_h16⟩ : ∃ b, hasB q.ph 16 = b := ⟨_, rfl⟩
  obtain ⟨h2, e_h2⟩ : ∃ b, hasB q.ph 2 = b := ⟨_, rfl⟩
  obtain ⟨h4, e_h4⟩ : ∃ b, hasB q.ph 4 = b := ⟨_, rfl⟩
  obtain ⟨h1, e_h1⟩ : ∃ b, hasB q.ph 1 = b := ⟨_, rfl⟩
  obtain ⟨ha, e_ha⟩ : ∃ b, hasB q.ph 6 = b := ⟨_, rfl⟩
  obtain ⟨hd, e_hd⟩ : ∃ b, hasB q.ph 9 = b := ⟨_, rfl⟩
  obtain ⟨hb, e_hb⟩ : ∃ b, hasB p.ph 6 = b := ⟨_, rfl⟩
  obtain ⟨s1, e_s1⟩ : ∃ b, sameW q.pv p.pv = b := ⟨_, rfl⟩
  obtain ⟨s2, e_s2⟩ : ∃ b, sameW q.pg p.pg = b := ⟨_, rfl⟩
  obtain ⟨s3, e_s3⟩ : ∃ b, sameW q.pt p.pt = b := ⟨_, rfl⟩
  rw [e_h16] at C16
  have C16 := Lib.hid C16
  rw [e_h2] at C2
  have C2 := Lib.hid C2
  rw [e_h4] at C4
  have C4 := Lib.hid C4
  rw [e_h1] at C1
  have C1 := Lib.hid C1
  rw [e_ha] at CA
  have CA := Lib.hid CA
  rw [e_hd] at CD
  have CD := Lib.hid CD
  rw [e_hb] at CB
  have CB := Lib.hid CB
  rw [e_s1] at E1
  have E1 := Lib.hid E1
  rw [e_s2] at E2
  have E2 := Lib.hid E2
  rw [e_s3] at E3
  have E3 := Lib.hid E3
  rw [e_xc, e_xe, e_ye, e_yw, e_xw, e_h16, e_h2, e_h4, e_h1, e_ha, e_hd, e_hb, e_s1, e_s2, e_s3]
  clear e_h16 e_h2 e_h4 e_h1 e_ha e_hd e_hb e_s1 e_s2 e_s3
  unfold prpV at C16 C2 C4 C1 CA CD CB ⊢
  go_enter Try.func34, Try.ntmps34
  go_upto_region 1 with fail
  obtain ⟨W1, hW1⟩ : ∃ W1, w.alloc (.cells (celP p) 26) = W1 := ⟨_, rfl⟩
  rw [hW1]
  obtain ⟨W2, hW2⟩ : ∃ W2, W1.alloc (.cells (celP q) 26) = W2 := ⟨_, rfl⟩
  have HS := Lib.hid (S2.new hW1 hW2)
  obtain ⟨a0, a16, a17, a18, d0, d16, d17, d18⟩ := HS.out.cs
  rw [hW2]
  clear hW1 hW2
  cases xc
  · skip
    cases h16
    · skip
      go_wp2_with (first | (refine ldP (k := 8) HS.out.k2 rfl (by kernel_rfl) rfl rfl ?_))
      with_reducible refine (C16.out _).mono ?_
      rintro e w2 ⟨rfl, b2⟩
      have HT := HS; clear HS
      have HS := Lib.hid (HT.out.step b2)
      clear HT b2 a0 a16 a17 a18 d0 d16 d17 d18
      obtain ⟨a0, a16, a17, a18, d0, d16, d17, d18⟩ := HS.out.cs
      cases ha
      · skip
        go_wp2_with (first | (refine ldP (k := 18) HS.out.k2 rfl (by kernel_rfl) rfl rfl ?_))
        with_reducible refine (CA.out _).mono ?_
        rintro e w2 ⟨rfl, b2⟩
        have HT := HS; clear HS
        have HS := Lib.hid (HT.out.step b2)
        clear HT b2 a0 a16 a17 a18 d0 d16 d17 d18
        obtain ⟨a0, a16, a17, a18, d0, d16, d17, d18⟩ := HS.out.cs
        cases hd
        · skip
          go_wp2_with (first | (refine ldP (k := 22) HS.out.k2 rfl (by kernel_rfl) rfl rfl ?_))
          with_reducible refine (CD.out _).mono ?_
          rintro e w2 ⟨rfl, b2⟩
          have HT := HS; clear HS
          have HS := Lib.hid (HT.out.step b2)
          clear HT b2 a0 a16 a17 a18 d0 d16 d17 d18
          obtain ⟨a0, a16, a17, a18, d0, d16, d17, d18⟩ := HS.out.cs
          go_wp2
          go_ret
          exact ⟨by simp, HS.out.b⟩
        · skip
          go_wp2_with (first | (refine ldP (k := 22) HS.out.k2 rfl (by kernel_rfl) rfl rfl ?_))
          with_reducible refine (CD.out _).mono ?_
          rintro e w2 ⟨rfl, b2⟩
          have HT := HS; clear HS
          have HS := Lib.hid (HT.out.step b2)
          clear HT b2 a0 a16 a17 a18 d0 d16 d17 d18
          obtain ⟨a0, a16, a17, a18, d0, d16, d17, d18⟩ := HS.out.cs
          go_upto_region 5 with fail
          refine wp_region_held_drew (S := fun wx => S2 w wx p q) (by kernel_rfl) (HS.out.drew) (fun hHeld => ?_)
          clear HS a0 a16 a17 a18 d0 d16 d17 d18
          refine take_s (i := 0) rfl (by kernel_rfl) (by kernel_rfl) (by kernel_rfl) (fun _ _ _ h => h) (Or.inl ⟨by rfl, fun w hS => ldP_run hS.k2 rfl rfl⟩) rfl (by assumption) ?_; simp only [lset]
          refine take_s (i := 2) rfl (by kernel_rfl) (by kernel_rfl) (by kernel_rfl) (fun _ _ _ h => h) (Or.inl ⟨by rfl, fun w hS => ldP_run hS.k rfl rfl⟩) rfl (by assumption) ?_; simp only [lset]
          refine call_s (i := 1) (by kernel_rfl) rfl rfl (by rfl) (fun K hK => ?_)
          go_simp
          with_reducible refine (CA.out _).mono ?_
          rintro e w2 ⟨rfl, b2⟩
          have hHe2 := hHeld.step b2
          clear hHeld b2
          refine hK.out _ _ hHe2 ?_; clear hK K; simp only [lset]
          have hHeld := hHe2; clear hHe2
          cases hb
          · skip
            refine call_s (i := 3) (by kernel_rfl) rfl rfl (by rfl) (fun K hK => ?_)
            go_simp
            with_reducible refine (CB.out _).mono ?_
            rintro e w2 ⟨rfl, b2⟩
            have hHe2 := hHeld.step b2
            clear hHeld b2
            refine hK.out _ _ hHe2 ?_; clear hK K; simp only [lset]
            have hHeld := hHe2; clear hHe2
            refine take_s (i := 4) rfl (by kernel_rfl) (by kernel_rfl) (by kernel_rfl) (fun _ _ _ h => h) (Or.inl ⟨by rfl, by (intro w hSw; go_simp; try with_reducible rfl)⟩) rfl (by assumption) ?_; simp only [lset]
            refine wpAnyH_done (by kernel_rfl) ?_ _
            have HS := Lib.hid hHeld
            clear hHeld
            go_upto_region 7 with fail
            obtain ⟨a0, a16, a17, a18, d0, d16, d17, d18⟩ := HS.out.cs
            go_wp2_with (first | (refine ldP (k := 31) HS.out.k2 rfl (by kernel_rfl) rfl rfl ?_))
            with_reducible refine (CA.out _).mono ?_
            rintro e w2 ⟨rfl, b2⟩
            have HT := HS; clear HS
            have HS := Lib.hid (HT.out.step b2)
            clear HT b2 a0 a16 a17 a18 d0 d16 d17 d18
            obtain ⟨a0, a16, a17, a18, d0, d16, d17, d18⟩ := HS.out.cs
            cases yw
            · skip
              cases xw
              · skip
                cases h1
                · skip
                  go_wp2_with (first | (refine ldP (k := 62) HS.out.k2 rfl (by kernel_rfl) rfl rfl ?_))
                  with_reducible refine (C1.out _).mono ?_
                  rintro e w2 ⟨rfl, b2⟩
                  have HT := HS; clear HS
                  have HS := Lib.hid (HT.out.step b2)
                  clear HT b2 a0 a16 a17 a18 d0 d16 d17 d18
                  obtain ⟨a0, a16, a17, a18, d0, d16, d17, d18⟩ := HS.out.cs
                  go_wp2
                  go_ret
                  exact ⟨by simp, HS.out.b⟩
                · skip
                  go_wp2_with (first | (refine ldP (k := 62) HS.out.k2 rfl (by kernel_rfl) rfl rfl ?_))
                  with_reducible refine (C1.out _).mono ?_
                  rintro e w2 ⟨rfl, b2⟩
                  have HT := HS; clear HS
                  have HS := Lib.hid (HT.out.step b2)
                  clear HT b2 a0 a16 a17 a18 d0 d16 d17 d18
                  obtain ⟨a0, a16, a17, a18, d0, d16, d17, d18⟩ := HS.out.cs
                  cases s1
                  · skip
                    go_wp2_with (first | (refine ldV (k := 67) (off := 1) (v := q.pv) HS.out.k2 rfl rfl (by omega) (by kernel_rfl) rfl rfl ?_) | (refine ldV (k := 69) (off := 1) (v := p.pv) HS.out.k rfl rfl (by omega) (by kernel_rfl) rfl rfl ?_))
                    with_reducible refine (E1.out _).mono ?_
                    rintro e w2 ⟨rfl, b2⟩
                    have HT := HS; clear HS
                    have HS := Lib.hid (HT.out.step b2)
                    clear HT b2 a0 a16 a17 a18 d0 d16 d17 d18
                    obtain ⟨a0, a16, a17, a18, d0, d16, d17, d18⟩ := HS.out.cs
                    go_wp2
                    go_ret
                    exact ⟨by simp, HS.out.b⟩
                  · skip
                    go_wp2_with (first | (refine ldV (k := 67) (off := 1) (v := q.pv) HS.out.k2 rfl rfl (by omega) (by kernel_rfl) rfl rfl ?_) | (refine ldV (k := 69) (off := 1) (v := p.pv) HS.out.k rfl rfl (by omega) (by kernel_rfl) rfl rfl ?_))
                    with_reducible refine (E1.out _).mono ?_
                    rintro e w2 ⟨rfl, b2⟩
                    have HT := HS; clear HS
                    have HS := Lib.hid (HT.out.step b2)
                    clear HT b2 a0 a16 a17 a18 d0 d16 d17 d18
                    obtain ⟨a0, a16, a17, a18, d0, d16, d17, d18⟩ := HS.out.cs
                    go_wp2
                    go_ret
                    exact ⟨by simp, HS.out.b⟩
              · skip
                go_wp2
                go_ret
                exact ⟨by simp, HS.out.b⟩
            · skip
              go_wp2
              go_ret
              exact ⟨by simp, HS.out.b⟩
          · skip
            refine call_s (i := 3) (by kernel_rfl) rfl rfl (by rfl) (fun K hK => ?_)
            go_simp
            with_reducible refine (CB.out _).mono ?_
            rintro e w2 ⟨rfl, b2⟩
            have hHe2 := hHeld.step b2
            clear hHeld b2
            refine hK.out _ _ hHe2 ?_; clear hK K; simp only [lset]
            have hHeld := hHe2; clear hHe2
            refine take_s (i := 4) rfl (by kernel_rfl) (by kernel_rfl) (by kernel_rfl) (fun _ _ _ h => h) (Or.inl ⟨by rfl, by (intro w hSw; go_simp; try with_reducible rfl)⟩) rfl (by assumption) ?_; simp only [lset]
            refine wpAnyH_done (by kernel_rfl) ?_ _
            have HS := Lib.hid hHeld
            clear hHeld
            go_wp2
            go_ret
            exact ⟨by simp, HS.out.b⟩
      · skip
        go_wp2_with (first | (refine ldP (k := 18) HS.out.k2 rfl (by kernel_rfl) rfl rfl ?_))
        with_reducible refine (CA.out _).mono ?_
        rintro e w2 ⟨rfl, b2⟩
        have HT := HS; clear HS
        have HS := Lib.hid (HT.out.step b2)
        clear HT b2 a0 a16 a17 a18 d0 d16 d17 d18
        obtain ⟨a0, a16, a17, a18, d0, d16, d17, d18⟩ := HS.out.cs
        go_upto_region 5 with fail
        refine wp_region_held_drew (S := fun wx => S2 w wx p q) (by kernel_rfl) (HS.out.drew) (fun hHeld => ?_)
        clear HS a0 a16 a17 a18 d0 d16 d17 d18
        refine take_s (i := 0) rfl (by kernel_rfl) (by kernel_rfl) (by kernel_rfl) (fun _ _ _ h => h) (Or.inl ⟨by rfl, fun w hS => ldP_run hS.k2 rfl rfl⟩) rfl (by assumption) ?_; simp only [lset]
        refine take_s (i := 2) rfl (by kernel_rfl) (by kernel_rfl) (by kernel_rfl) (fun _ _ _ h => h) (Or.inl ⟨by rfl, fun w hS => ldP_run hS.k rfl rfl⟩) rfl (by assumption) ?_; simp only [lset]
        refine call_s (i := 1) (by kernel_rfl) rfl rfl (by rfl) (fun K hK => ?_)
        go_simp
        with_reducible refine (CA.out _).mono ?_
        rintro e w2 ⟨rfl, b2⟩
        have hHe2 := hHeld.step b2
        clear hHeld b2
        refine hK.out _ _ hHe2 ?_; clear hK K; simp only [lset]
        have hHeld := hHe2; clear hHe2
        cases hb
        · skip
          refine call_s (i := 3) (by kernel_rfl) rfl rfl (by rfl) (fun K hK => ?_)
          go_simp
          with_reducible refine (CB.out _).mono ?_
          rintro e w2 ⟨rfl, b2⟩
          have hHe2 := hHeld.step b2
          clear hHeld b2
          refine hK.out _ _ hHe2 ?_; clear hK K; simp only [lset]
          have hHeld := hHe2; clear hHe2
          refine take_s (i := 4) rfl (by kernel_rfl) (by kernel_rfl) (by kernel_rfl) (fun _ _ _ h => h) (Or.inl ⟨by rfl, by (intro w hSw; go_simp; try with_reducible rfl)⟩) rfl (by assumption) ?_; simp only [lset]
          refine wpAnyH_done (by kernel_rfl) ?_ _
          have HS := Lib.hid hHeld
          clear hHeld
          go_wp2
          go_ret
          exact ⟨by simp, HS.out.b⟩
        · skip
          refine call_s (i := 3) (by kernel_rfl) rfl rfl (by rfl) (fun K hK => ?_)
          go_simp
          with_reducible refine (CB.out _).mono ?_
          rintro e w2 ⟨rfl, b2⟩
          have hHe2 := hHeld.step b2
          clear hHeld b2
          refine hK.out _ _ hHe2 ?_; clear hK K; simp only [lset]
          have hHeld := hHe2; clear hHe2
          refine take_s (i := 4) rfl (by kernel_rfl) (by kernel_rfl) (by kernel_rfl) (fun _ _ _ h => h) (Or.inl ⟨by rfl, by (intro w hSw; go_simp; try with_reducible rfl)⟩) rfl (by assumption) ?_; simp only [lset]
          refine wpAnyH_done (by kernel_rfl) ?_ _
          have HS := Lib.hid hHeld
          clear hHeld
          go_upto_region 7 with fail
          obtain ⟨a0, a16, a17, a18, d0, d16, d17, d18⟩ := HS.out.cs
          go_wp2_with (first | (refine ldP (k := 31) HS.out.k2 rfl (by kernel_rfl) rfl rfl ?_))
          with_reducible refine (CA.out _).mono ?_
          rintro e w2 ⟨rfl, b2⟩
          have HT := HS; clear HS
          have HS := Lib.hid (HT.out.step b2)
          clear HT b2 a0 a16 a17 a18 d0 d16 d17 d18
          obtain ⟨a0, a16, a17, a18, d0, d16, d17, d18⟩ := HS.out.cs
          cases h2
          · skip
            go_wp2_with (first | (refine ldP (k := 33) HS.out.k2 rfl (by kernel_rfl) rfl rfl ?_))
            with_reducible refine (C2.out _).mono ?_
            rintro e w2 ⟨rfl, b2⟩
            have HT := HS; clear HS
            have HS := Lib.hid (HT.out.step b2)
            clear HT b2 a0 a16 a17 a18 d0 d16 d17 d18
            obtain ⟨a0, a16, a17, a18, d0, d16, d17, d18⟩ := HS.out.cs
            cases h4
            · skip
              go_wp2_with (first | (refine ldP (k := 44) HS.out.k2 rfl (by kernel_rfl) rfl rfl ?_))
              with_reducible refine (C4.out _).mono ?_
              rintro e w2 ⟨rfl, b2⟩
              have HT := HS; clear HS
              have HS := Lib.hid (HT.out.step b2)
              clear HT b2 a0 a16 a17 a18 d0 d16 d17 d18
              obtain ⟨a0, a16, a17, a18, d0, d16, d17, d18⟩ := HS.out.cs
              go_wp2
              go_ret
              exact ⟨by simp, HS.out.b⟩
            · skip
              go_wp2_with (first | (refine ldP (k := 44) HS.out.k2 rfl (by kernel_rfl) rfl rfl ?_))
              with_reducible refine (C4.out _).mono ?_
              rintro e w2 ⟨rfl, b2⟩
              have HT := HS; clear HS
              have HS := Lib.hid (HT.out.step b2)
              clear HT b2 a0 a16 a17 a18 d0 d16 d17 d18
              obtain ⟨a0, a16, a17, a18, d0, d16, d17, d18⟩ := HS.out.cs
              cases s3
              · skip
                go_wp2_with (first | (refine ldV (k := 49) (off := 11) (v := q.pt) HS.out.k2 rfl rfl (by omega) (by kernel_rfl) rfl rfl ?_) | (refine ldV (k := 51) (off := 11) (v := p.pt) HS.out.k rfl rfl (by omega) (by kernel_rfl) rfl rfl ?_))
                with_reducible refine (E3.out _).mono ?_
                rintro e w2 ⟨rfl, b2⟩
                have HT := HS; clear HS
                have HS := Lib.hid (HT.out.step b2)
                clear HT b2 a0 a16 a17 a18 d0 d16 d17 d18
                obtain ⟨a0, a16, a17, a18, d0, d16, d17, d18⟩ := HS.out.cs
                go_wp2
                go_ret
                exact ⟨by simp, HS.out.b⟩
              · skip
                go_wp2_with (first | (refine ldV (k := 49) (off := 11) (v := q.pt) HS.out.k2 rfl rfl (by omega) (by kernel_rfl) rfl rfl ?_) | (refine ldV (k := 51) (off := 11) (v := p.pt) HS.out.k rfl rfl (by omega) (by kernel_rfl) rfl rfl ?_))
                with_reducible refine (E3.out _).mono ?_
                rintro e w2 ⟨rfl, b2⟩
                have HT := HS; clear HS
                have HS := Lib.hid (HT.out.step b2)
                clear HT b2 a0 a16 a17 a18 d0 d16 d17 d18
                obtain ⟨a0, a16, a17, a18, d0, d16, d17, d18⟩ := HS.out.cs
                go_wp2
                go_ret
                exact ⟨by simp, HS.out.b⟩
          · skip
            go_wp2_with (first | (refine ldP (k := 33) HS.out.k2 rfl (by kernel_rfl) rfl rfl ?_))
            with_reducible refine (C2.out _).mono ?_
            rintro e w2 ⟨rfl, b2⟩
            have HT := HS; clear HS
            have HS := Lib.hid (HT.out.step b2)
            clear HT b2 a0 a16 a17 a18 d0 d16 d17 d18
            obtain ⟨a0, a16, a17, a18, d0, d16, d17, d18⟩ := HS.out.cs
            cases s2
            · skip
              go_wp2_with (first | (refine ldV (k := 38) (off := 6) (v := q.pg) HS.out.k2 rfl rfl (by omega) (by kernel_rfl) rfl rfl ?_) | (refine ldV (k := 40) (off := 6) (v := p.pg) HS.out.k rfl rfl (by omega) (by kernel_rfl) rfl rfl ?_))
              with_reducible refine (E2.out _).mono ?_
              rintro e w2 ⟨rfl, b2⟩
              have HT := HS; clear HS
              have HS := Lib.hid (HT.out.step b2)
              clear HT b2 a0 a16 a17 a18 d0 d16 d17 d18
              obtain ⟨a0, a16, a17, a18, d0, d16, d17, d18⟩ := HS.out.cs
              go_wp2
              go_ret
              exact ⟨by simp, HS.out.b⟩
            · skip
              go_wp2_with (first | (refine ldV (k := 38) (off := 6) (v := q.pg) HS.out.k2 rfl rfl (by omega) (by kernel_rfl) rfl rfl ?_) | (refine ldV (k := 40) (off := 6) (v := p.pg) HS.out.k rfl rfl (by omega) (by kernel_rfl) rfl rfl ?_))
              with_reducible refine (E2.out _).mono ?_
              rintro e w2 ⟨rfl, b2⟩
              have HT := HS; clear HS
              have HS := Lib.hid (HT.out.step b2)
              clear HT b2 a0 a16 a17 a18 d0 d16 d17 d18
              obtain ⟨a0, a16, a17, a18, d0, d16, d17, d18⟩ := HS.out.cs
              cases h4
              · skip
                go_wp2_with (first | (refine ldP (k := 44) HS.out.k2 rfl (by kernel_rfl) rfl rfl ?_))
                with_reducible refine (C4.out _).mono ?_
                rintro e w2 ⟨rfl, b2⟩
                have HT := HS; clear HS
                have HS := Lib.hid (HT.out.step b2)
                clear HT b2 a0 a16 a17 a18 d0 d16 d17 d18
                obtain ⟨a0, a16, a17, a18, d0, d16, d17, d18⟩ := HS.out.cs
                go_wp2
                go_ret
                exact ⟨by simp, HS.out.b⟩
              · skip
                go_wp2_with (first | (refine ldP (k := 44) HS.out.k2 rfl (by kernel_rfl) rfl rfl ?_))
                with_reducible refine (C4.out _).mono ?_
                rintro e w2 ⟨rfl, b2⟩
                have HT := HS; clear HS
                have HS := Lib.hid (HT.out.step b2)
                clear HT b2 a0 a16 a17 a18 d0 d16 d17 d18
                obtain ⟨a0, a16, a17, a18, d0, d16, d17, d18⟩ := HS.out.cs
                cases s3
                · skip
                  go_wp2_with (first | (refine ldV (k := 49) (off := 11) (v := q.pt) HS.out.k2 rfl rfl (by omega) (by kernel_rfl) rfl rfl ?_) | (refine ldV (k := 51) (off := 11) (v := p.pt) HS.out.k rfl rfl (by omega) (by kernel_rfl) rfl rfl ?_))
                  with_reducible refine (E3.out _).mono ?_
                  rintro e w2 ⟨rfl, b2⟩
                  have HT := HS; clear HS
                  have HS := Lib.hid (HT.out.step b2)
                  clear HT b2 a0 a16 a17 a18 d0 d16 d17 d18
                  obtain ⟨a0, a16, a17, a18, d0, d16, d17, d18⟩ := HS.out.cs
                  go_wp2
                  go_ret
                  exact ⟨by simp, HS.out.b⟩
                · skip
                  go_wp2_with (first | (refine ldV (k := 49) (off := 11) (v := q.pt) HS.out.k2 rfl rfl (by omega) (by kernel_rfl) rfl rfl ?_) | (refine ldV (k := 51) (off := 11) (v := p.pt) HS.out.k rfl rfl (by omega) (by kernel_rfl) rfl rfl ?_))
                  with_reducible refine (E3.out _).mono ?_
                  rintro e w2 ⟨rfl, b2⟩
                  have HT := HS; clear HS
                  have HS := Lib.hid (HT.out.step b2)
                  clear HT b2 a0 a16 a17 a18 d0 d16 d17 d18
                  obtain ⟨a0, a16, a17, a18, d0, d16, d17, d18⟩ := HS.out.cs
                  go_wp2
                  go_ret
                  exact ⟨by simp, HS.out.b⟩
    · skip
      go_wp2_with (first | (refine ldP (k := 8) HS.out.k2 rfl (by kernel_rfl) rfl rfl ?_))
      with_reducible refine (C16.out _).mono ?_
      rintro e w2 ⟨rfl, b2⟩
      have HT := HS; clear HS
      have HS := Lib.hid (HT.out.step b2)
      clear HT b2 a0 a16 a17 a18 d0 d16 d17 d18
      obtain ⟨a0, a16, a17, a18, d0, d16, d17, d18⟩ := HS.out.cs
      cases xe
      · skip
        cases ye
        · skip
          cases ha
          · skip
            go_wp2_with (first | (refine ldP (k := 18) HS.out.k2 rfl (by kernel_rfl) rfl rfl ?_))
            with_reducible refine (CA.out _).mono ?_
            rintro e w2 ⟨rfl, b2⟩
            have HT := HS; clear HS
            have HS := Lib.hid (HT.out.step b2)
            clear HT b2 a0 a16 a17 a18 d0 d16 d17 d18
            obtain ⟨a0, a16, a17, a18, d0, d16, d17, d18⟩ := HS.out.cs
            cases hd
            · skip
              go_wp2_with (first | (refine ldP (k := 22) HS.out.k2 rfl (by kernel_rfl) rfl rfl ?_))
              with_reducible refine (CD.out _).mono ?_
              rintro e w2 ⟨rfl, b2⟩
              have HT := HS; clear HS
              have HS := Lib.hid (HT.out.step b2)
              clear HT b2 a0 a16 a17 a18 d0 d16 d17 d18
              obtain ⟨a0, a16, a17, a18, d0, d16, d17, d18⟩ := HS.out.cs
              go_wp2
              go_ret
              exact ⟨by simp, HS.out.b⟩
            · skip
              go_wp2_with (first | (refine ldP (k := 22) HS.out.k2 rfl (by kernel_rfl) rfl rfl ?_))
              with_reducible refine (CD.out _).mono ?_
              rintro e w2 ⟨rfl, b2⟩
              have HT := HS; clear HS
              have HS := Lib.hid (HT.out.step b2)
              clear HT b2 a0 a16 a17 a18 d0 d16 d17 d18
              obtain ⟨a0, a16, a17, a18, d0, d16, d17, d18⟩ := HS.out.cs
              go_upto_region 5 with fail
              refine wp_region_held_drew (S := fun wx => S2 w wx p q) (by kernel_rfl) (HS.out.drew) (fun hHeld => ?_)
              clear HS a0 a16 a17 a18 d0 d16 d17 d18
              refine take_s (i := 0) rfl (by kernel_rfl) (by kernel_rfl) (by kernel_rfl) (fun _ _ _ h => h) (Or.inl ⟨by rfl, fun w hS => ldP_run hS.k2 rfl rfl⟩) rfl (by assumption) ?_; simp only [lset]
              refine take_s (i := 2) rfl (by kernel_rfl) (by kernel_rfl) (by kernel_rfl) (fun _ _ _ h => h) (Or.inl ⟨by rfl, fun w hS => ldP_run hS.k rfl rfl⟩) rfl (by assumption) ?_; simp only [lset]
              refine call_s (i := 1) (by kernel_rfl) rfl rfl (by rfl) (fun K hK => ?_)
              go_simp
              with_reducible refine (CA.out _).mono ?_
              rintro e w2 ⟨rfl, b2⟩
              have hHe2 := hHeld.step b2
              clear hHeld b2
              refine hK.out _ _ hHe2 ?_; clear hK K; simp only [lset]
              have hHeld := hHe2; clear hHe2
              cases hb
              · skip
                refine call_s (i := 3) (by kernel_rfl) rfl rfl (by rfl) (fun K hK => ?_)
                go_simp
                with_reducible refine (CB.out _).mono ?_
                rintro e w2 ⟨rfl, b2⟩
                have hHe2 := hHeld.step b2
                clear hHeld b2
                refine hK.out _ _ hHe2 ?_; clear hK K; simp only [lset]
                have hHeld := hHe2; clear hHe2
                refine take_s (i := 4) rfl (by kernel_rfl) (by kernel_rfl) (by kernel_rfl) (fun _ _ _ h => h) (Or.inl ⟨by rfl, by (intro w hSw; go_simp; try with_reducible rfl)⟩) rfl (by assumption) ?_; simp only [lset]
                refine wpAnyH_done (by kernel_rfl) ?_ _
                have HS := Lib.hid hHeld
                clear hHeld
                go_upto_region 7 with fail
                obtain ⟨a0, a16, a17, a18, d0, d16, d17, d18⟩ := HS.out.cs
                go_wp2_with (first | (refine ldP (k := 31) HS.out.k2 rfl (by kernel_rfl) rfl rfl ?_))
                with_reducible refine (CA.out _).mono ?_
                rintro e w2 ⟨rfl, b2⟩
                have HT := HS; clear HS
                have HS := Lib.hid (HT.out.step b2)
                clear HT b2 a0 a16 a17 a18 d0 d16 d17 d18
                obtain ⟨a0, a16, a17, a18, d0, d16, d17, d18⟩ := HS.out.cs
                cases yw
                · skip
                  cases xw
                  · skip
                    cases h1
                    · skip
                      go_wp2_with (first | (refine ldP (k := 62) HS.out.k2 rfl (by kernel_rfl) rfl rfl ?_))
                      with_reducible refine (C1.out _).mono ?_
                      rintro e w2 ⟨rfl, b2⟩
                      have HT := HS; clear HS
                      have HS := Lib.hid (HT.out.step b2)
                      clear HT b2 a0 a16 a17 a18 d0 d16 d17 d18
                      obtain ⟨a0, a16, a17, a18, d0, d16, d17, d18⟩ := HS.out.cs
                      go_wp2
                      go_ret
                      exact ⟨by simp, HS.out.b⟩
                    · skip
                      go_wp2_with (first | (refine ldP (k := 62) HS.out.k2 rfl (by kernel_rfl) rfl rfl ?_))
                      with_reducible refine (C1.out _).mono ?_
                      rintro e w2 ⟨rfl, b2⟩
                      have HT := HS; clear HS
                      have HS := Lib.hid (HT.out.step b2)
                      clear HT b2 a0 a16 a17 a18 d0 d16 d17 d18
                      obtain ⟨a0, a16, a17, a18, d0, d16, d17, d18⟩ := HS.out.cs
                      cases s1
                      · skip
                        go_wp2_with (first | (refine ldV (k := 67) (off := 1) (v := q.pv) HS.out.k2 rfl rfl (by omega) (by kernel_rfl) rfl rfl ?_) | (refine ldV (k := 69) (off := 1) (v := p.pv) HS.out.k rfl rfl (by omega) (by kernel_rfl) rfl rfl ?_))
                        with_reducible refine (E1.out _).mono ?_
                        rintro e w2 ⟨rfl, b2⟩
                        have HT := HS; clear HS
                        have HS := Lib.hid (HT.out.step b2)
                        clear HT b2 a0 a16 a17 a18 d0 d16 d17 d18
                        obtain ⟨a0, a16, a17, a18, d0, d16, d17, d18⟩ := HS.out.cs
                        go_wp2
                        go_ret
                        exact ⟨by simp, HS.out.b⟩
                      · skip
                        go_wp2_with (first | (refine ldV (k := 67) (off := 1) (v := q.pv) HS.out.k2 rfl rfl (by omega) (by kernel_rfl) rfl rfl ?_) | (refine ldV (k := 69) (off := 1) (v := p.pv) HS.out.k rfl rfl (by omega) (by kernel_rfl) rfl rfl ?_))
                        with_reducible refine (E1.out _).mono ?_
                        rintro e w2 ⟨rfl, b2⟩
                        have HT := HS; clear HS
                        have HS := Lib.hid (HT.out.step b2)
                        clear HT b2 a0 a16 a17 a18 d0 d16 d17 d18
                        obtain ⟨a0, a16, a17, a18, d0, d16, d17, d18⟩ := HS.out.cs
                        go_wp2
                        go_ret
                        exact ⟨by simp, HS.out.b⟩
                  · skip
                    go_wp2
                    go_ret
                    exact ⟨by simp, HS.out.b⟩
                · skip
                  go_wp2
                  go_ret
                  exact ⟨by simp, HS.out.b⟩
              · skip
                refine call_s (i := 3) (by kernel_rfl) rfl rfl (by rfl) (fun K hK => ?_)
                go_simp
                with_reducible refine (CB.out _).mono ?_
                rintro e w2 ⟨rfl, b2⟩
                have hHe2 := hHeld.step b2
                clear hHeld b2
                refine hK.out _ _ hHe2 ?_; clear hK K; simp only [lset]
                have hHeld := hHe2; clear hHe2
                refine take_s (i := 4) rfl (by kernel_rfl) (by kernel_rfl) (by kernel_rfl) (fun _ _ _ h => h) (Or.inl ⟨by rfl, by (intro w hSw; go_simp; try with_reducible rfl)⟩) rfl (by assumption) ?_; simp only [lset]
                refine wpAnyH_done (by kernel_rfl) ?_ _
                have HS := Lib.hid hHeld
                clear hHeld
                go_wp2
                go_ret
                exact ⟨by simp, HS.out.b⟩
          · skip
            go_wp2_with (first | (refine ldP (k := 18) HS.out.k2 rfl (by kernel_rfl) rfl rfl ?_))
            with_reducible refine (CA.out _).mono ?_
            rintro e w2 ⟨rfl, b2⟩
            have HT := HS; clear HS
            have HS := Lib.hid (HT.out.step b2)
            clear HT b2 a0 a16 a17 a18 d0 d16 d17 d18
            obtain ⟨a0, a16, a17, a18, d0, d16, d17, d18⟩ := HS.out.cs
            go_upto_region 5 with fail
            refine wp_region_held_drew (S := fun wx => S2 w wx p q) (by kernel_rfl) (HS.out.drew) (fun hHeld => ?_)
            clear HS a0 a16 a17 a18 d0 d16 d17 d18
            refine take_s (i := 0) rfl (by kernel_rfl) (by kernel_rfl) (by kernel_rfl) (fun _ _ _ h => h) (Or.inl ⟨by rfl, fun w hS => ldP_run hS.k2 rfl rfl⟩) rfl (by assumption) ?_; simp only [lset]
            refine take_s (i := 2) rfl (by kernel_rfl) (by kernel_rfl) (by kernel_rfl) (fun _ _ _ h => h) (Or.inl ⟨by rfl, fun w hS => ldP_run hS.k rfl rfl⟩) rfl (by assumption) ?_; simp only [lset]
            refine call_s (i := 1) (by kernel_rfl) rfl rfl (by rfl) (fun K hK => ?_)
            go_simp
            with_reducible refine (CA.out _).mono ?_
            rintro e w2 ⟨rfl, b2⟩
            have hHe2 := hHeld.step b2
            clear hHeld b2
            refine hK.out _ _ hHe2 ?_; clear hK K; simp only [lset]
            have hHeld := hHe2; clear hHe2
            cases hb
            · skip
              refine call_s (i := 3) (by kernel_rfl) rfl rfl (by rfl) (fun K hK => ?_)
              go_simp
              with_reducible refine (CB.out _).mono ?_
              rintro e w2 ⟨rfl, b2⟩
              have hHe2 := hHeld.step b2
              clear hHeld b2
              refine hK.out _ _ hHe2 ?_; clear hK K; simp only [lset]
              have hHeld := hHe2; clear hHe2
              refine take_s (i := 4) rfl (by kernel_rfl) (by kernel_rfl) (by kernel_rfl) (fun _ _ _ h => h) (Or.inl ⟨by rfl, by (intro w hSw; go_simp; try with_reducible rfl)⟩) rfl (by assumption) ?_; simp only [lset]
              refine wpAnyH_done (by kernel_rfl) ?_ _
              have HS := Lib.hid hHeld
              clear hHeld
              go_wp2
              go_ret
              exact ⟨by simp, HS.out.b⟩
            · skip
              refine call_s (i := 3) (by kernel_rfl) rfl rfl (by rfl) (fun K hK => ?_)
              go_simp
              with_reducible refine (CB.out _).mono ?_
              rintro e w2 ⟨rfl, b2⟩
              have hHe2 := hHeld.step b2
              clear hHeld b2
              refine hK.out _ _ hHe2 ?_; clear hK K; simp only [lset]
              have hHeld := hHe2; clear hHe2
              refine take_s (i := 4) rfl (by kernel_rfl) (by kernel_rfl) (by kernel_rfl) (fun _ _ _ h => h) (Or.inl ⟨by rfl, by (intro w hSw; go_simp; try with_reducible rfl)⟩) rfl (by assumption) ?_; simp only [lset]
              refine wpAnyH_done (by kernel_rfl) ?_ _
              have HS := Lib.hid hHeld
              clear hHeld
              go_upto_region 7 with fail
              obtain ⟨a0, a16, a17, a18, d0, d16, d17, d18⟩ := HS.out.cs
              go_wp2_with (first | (refine ldP (k := 31) HS.out.k2 rfl (by kernel_rfl) rfl rfl ?_))
              with_reducible refine (CA.out _).mono ?_
              rintro e w2 ⟨rfl, b2⟩
              have HT := HS; clear HS
              have HS := Lib.hid (HT.out.step b2)
              clear HT b2 a0 a16 a17 a18 d0 d16 d17 d18
              obtain ⟨a0, a16, a17, a18, d0, d16, d17, d18⟩ := HS.out.cs
              cases h2
              · skip
                go_wp2_with (first | (refine ldP (k := 33) HS.out.k2 rfl (by kernel_rfl) rfl rfl ?_))
                with_reducible refine (C2.out _).mono ?_
                rintro e w2 ⟨rfl, b2⟩
                have HT := HS; clear HS
                have HS := Lib.hid (HT.out.step b2)
                clear HT b2 a0 a16 a17 a18 d0 d16 d17 d18
                obtain ⟨a0, a16, a17, a18, d0, d16, d17, d18⟩ := HS.out.cs
                cases h4
                · skip
                  go_wp2_with (first | (refine ldP (k := 44) HS.out.k2 rfl (by kernel_rfl) rfl rfl ?_))
                  with_reducible refine (C4.out _).mono ?_
                  rintro e w2 ⟨rfl, b2⟩
                  have HT := HS; clear HS
                  have HS := Lib.hid (HT.out.step b2)
                  clear HT b2 a0 a16 a17 a18 d0 d16 d17 d18
                  obtain ⟨a0, a16, a17, a18, d0, d16, d17, d18⟩ := HS.out.cs
                  go_wp2
                  go_ret
                  exact ⟨by simp, HS.out.b⟩
                · skip
                  go_wp2_with (first | (refine ldP (k := 44) HS.out.k2 rfl (by kernel_rfl) rfl rfl ?_))
                  with_reducible refine (C4.out _).mono ?_
                  rintro e w2 ⟨rfl, b2⟩
                  have HT := HS; clear HS
                  have HS := Lib.hid (HT.out.step b2)
                  clear HT b2 a0 a16 a17 a18 d0 d16 d17 d18
                  obtain ⟨a0, a16, a17, a18, d0, d16, d17, d18⟩ := HS.out.cs
                  cases s3
                  · skip
                    go_wp2_with (first | (refine ldV (k := 49) (off := 11) (v := q.pt) HS.out.k2 rfl rfl (by omega) (by kernel_rfl) rfl rfl ?_) | (refine ldV (k := 51) (off := 11) (v := p.pt) HS.out.k rfl rfl (by omega) (by kernel_rfl) rfl rfl ?_))
                    with_reducible refine (E3.out _).mono ?_
                    rintro e w2 ⟨rfl, b2⟩
                    have HT := HS; clear HS
                    have HS := Lib.hid (HT.out.step b2)
                    clear HT b2 a0 a16 a17 a18 d0 d16 d17 d18
                    obtain ⟨a0, a16, a17, a18, d0, d16, d17, d18⟩ := HS.out.cs
                    go_wp2
                    go_ret
                    exact ⟨by simp, HS.out.b⟩
                  · skip
                    go_wp2_with (first | (refine ldV (k := 49) (off := 11) (v := q.pt) HS.out.k2 rfl rfl (by omega) (by kernel_rfl) rfl rfl ?_) | (refine ldV (k := 51) (off := 11) (v := p.pt) HS.out.k rfl rfl (by omega) (by kernel_rfl) rfl rfl ?_))
                    with_reducible refine (E3.out _).mono ?_
                    rintro e w2 ⟨rfl, b2⟩
                    have HT := HS; clear HS
                    have HS := Lib.hid (HT.out.step b2)
                    clear HT b2 a0 a16 a17 a18 d0 d16 d17 d18
                    obtain ⟨a0, a16, a17, a18, d0, d16, d17, d18⟩ := HS.out.cs
                    go_wp2
                    go_ret
                    exact ⟨by simp, HS.out.b⟩
              · skip
                go_wp2_with (first | (refine ldP (k := 33) HS.out.k2 rfl (by kernel_rfl) rfl rfl ?_))
                with_reducible refine (C2.out _).mono ?_
                rintro e w2 ⟨rfl, b2⟩
                have HT := HS; clear HS
                have HS := Lib.hid (HT.out.step b2)
                clear HT b2 a0 a16 a17 a18 d0 d16 d17 d18
                obtain ⟨a0, a16, a17, a18, d0, d16, d17, d18⟩ := HS.out.cs
                cases s2
                · skip
                  go_wp2_with (first | (refine ldV (k := 38) (off := 6) (v := q.pg) HS.out.k2 rfl rfl (by omega) (by kernel_rfl) rfl rfl ?_) | (refine ldV (k := 40) (off := 6) (v := p.pg) HS.out.k rfl rfl (by omega) (by kernel_rfl) rfl rfl ?_))
                  with_reducible refine (E2.out _).mono ?_
                  rintro e w2 ⟨rfl, b2⟩
                  have HT := HS; clear HS
                  have HS := Lib.hid (HT.out.step b2)
                  clear HT b2 a0 a16 a17 a18 d0 d16 d17 d18
                  obtain ⟨a0, a16, a17, a18, d0, d16, d17, d18⟩ := HS.out.cs
                  go_wp2
                  go_ret
                  exact ⟨by simp, HS.out.b⟩
                · skip
                  go_wp2_with (first | (refine ldV (k := 38) (off := 6) (v := q.pg) HS.out.k2 rfl rfl (by omega) (by kernel_rfl) rfl rfl ?_) | (refine ldV (k := 40) (off := 6) (v := p.pg) HS.out.k rfl rfl (by omega) (by kernel_rfl) rfl rfl ?_))
                  with_reducible refine (E2.out _).mono ?_
                  rintro e w2 ⟨rfl, b2⟩
                  have HT := HS; clear HS
                  have HS := Lib.hid (HT.out.step b2)
                  clear HT b2 a0 a16 a17 a18 d0 d16 d17 d18
                  obtain ⟨a0, a16, a17, a18, d0, d16, d17, d18⟩ := HS.out.cs
                  cases h4
                  · skip
                    go_wp2_with (first | (refine ldP (k := 44) HS.out.k2 rfl (by kernel_rfl) rfl rfl ?_))
                    with_reducible refine (C4.out _).mono ?_
                    rintro e w2 ⟨rfl, b2⟩
                    have HT := HS; clear HS
                    have HS := Lib.hid (HT.out.step b2)
                    clear HT b2 a0 a16 a17 a18 d0 d16 d17 d18
                    obtain ⟨a0, a16, a17, a18, d0, d16, d17, d18⟩ := HS.out.cs
                    go_wp2
                    go_ret
                    exact ⟨by simp, HS.out.b⟩
                  · skip
                    go_wp2_with (first | (refine ldP (k := 44) HS.out.k2 rfl (by kernel_rfl) rfl rfl ?_))
                    with_reducible refine (C4.out _).mono ?_
                    rintro e w2 ⟨rfl, b2⟩
                    have HT := HS; clear HS
                    have HS := Lib.hid (HT.out.step b2)
                    clear HT b2 a0 a16 a17 a18 d0 d16 d17 d18
                    obtain ⟨a0, a16, a17, a18, d0, d16, d17, d18⟩ := HS.out.cs
                    cases s3
                    · skip
                      go_wp2_with (first | (refine ldV (k := 49) (off := 11) (v := q.pt) HS.out.k2 rfl rfl (by omega) (by kernel_rfl) rfl rfl ?_) | (refine ldV (k := 51) (off := 11) (v := p.pt) HS.out.k rfl rfl (by omega) (by kernel_rfl) rfl rfl ?_))
                      with_reducible refine (E3.out _).mono ?_
                      rintro e w2 ⟨rfl, b2⟩
                      have HT := HS; clear HS
                      have HS := Lib.hid (HT.out.step b2)
                      clear HT b2 a0 a16 a17 a18 d0 d16 d17 d18
                      obtain ⟨a0, a16, a17, a18, d0, d16, d17, d18⟩ := HS.out.cs
                      go_wp2
                      go_ret
                      exact ⟨by simp, HS.out.b⟩
                    · skip
                      go_wp2_with (first | (refine ldV (k := 49) (off := 11) (v := q.pt) HS.out.k2 rfl rfl (by omega) (by kernel_rfl) rfl rfl ?_) | (refine ldV (k := 51) (off := 11) (v := p.pt) HS.out.k rfl rfl (by omega) (by kernel_rfl) rfl rfl ?_))
                      with_reducible refine (E3.out _).mono ?_
                      rintro e w2 ⟨rfl, b2⟩
                      have HT := HS; clear HS
                      have HS := Lib.hid (HT.out.step b2)
                      clear HT b2 a0 a16 a17 a18 d0 d16 d17 d18
                      obtain ⟨a0, a16, a17, a18, d0, d16, d17, d18⟩ := HS.out.cs
                      go_wp2
                      go_ret
                      exact ⟨by simp, HS.out.b⟩
        · skip
          go_wp2
          go_ret
          exact ⟨by simp, HS.out.b⟩
      · skip
        cases ye
        · skip
          go_wp2
          go_ret
          exact ⟨by simp, HS.out.b⟩
        · skip
          cases ha
          · skip
            go_wp2_with (first | (refine ldP (k := 18) HS.out.k2 rfl (by kernel_rfl) rfl rfl ?_))
            with_reducible refine (CA.out _).mono ?_
            rintro e w2 ⟨rfl, b2⟩
            have HT := HS; clear HS
            have HS := Lib.hid (HT.out.step b2)
            clear HT b2 a0 a16 a17 a18 d0 d16 d17 d18
            obtain ⟨a0, a16, a17, a18, d0, d16, d17, d18⟩ := HS.out.cs
            cases hd
            · skip
              go_wp2_with (first | (refine ldP (k := 22) HS.out.k2 rfl (by kernel_rfl) rfl rfl ?_))
              with_reducible refine (CD.out _).mono ?_
              rintro e w2 ⟨rfl, b2⟩
              have HT := HS; clear HS
              have HS := Lib.hid (HT.out.step b2)
              clear HT b2 a0 a16 a17 a18 d0 d16 d17 d18
              obtain ⟨a0, a16, a17, a18, d0, d16, d17, d18⟩ := HS.out.cs
              go_wp2
              go_ret
              exact ⟨by simp, HS.out.b⟩
            · skip
              go_wp2_with (first | (refine ldP (k := 22) HS.out.k2 rfl (by kernel_rfl) rfl rfl ?_))
              with_reducible refine (CD.out _).mono ?_
              rintro e w2 ⟨rfl, b2⟩
              have HT := HS; clear HS
              have HS := Lib.hid (HT.out.step b2)
              clear HT b2 a0 a16 a17 a18 d0 d16 d17 d18
              obtain ⟨a0, a16, a17, a18, d0, d16, d17, d18⟩ := HS.out.cs
              go_upto_region 5 with fail
              refine wp_region_held_drew (S := fun wx => S2 w wx p q) (by kernel_rfl) (HS.out.drew) (fun hHeld => ?_)
              clear HS a0 a16 a17 a18 d0 d16 d17 d18
              refine take_s (i := 0) rfl (by kernel_rfl) (by kernel_rfl) (by kernel_rfl) (fun _ _ _ h => h) (Or.inl ⟨by rfl, fun w hS => ldP_run hS.k2 rfl rfl⟩) rfl (by assumption) ?_; simp only [lset]
              refine take_s (i := 2) rfl (by kernel_rfl) (by kernel_rfl) (by kernel_rfl) (fun _ _ _ h => h) (Or.inl ⟨by rfl, fun w hS => ldP_run hS.k rfl rfl⟩) rfl (by assumption) ?_; simp only [lset]
              refine call_s (i := 1) (by kernel_rfl) rfl rfl (by rfl) (fun K hK => ?_)
              go_simp
              with_reducible refine (CA.out _).mono ?_
              rintro e w2 ⟨rfl, b2⟩
              have hHe2 := hHeld.step b2
              clear hHeld b2
              refine hK.out _ _ hHe2 ?_; clear hK K; simp only [lset]
              have hHeld := hHe2; clear hHe2
              cases hb
              · skip
                refine call_s (i := 3) (by kernel_rfl) rfl rfl (by rfl) (fun K hK => ?_)
                go_simp
                with_reducible refine (CB.out _).mono ?_
                rintro e w2 ⟨rfl, b2⟩
                have hHe2 := hHeld.step b2
                clear hHeld b2
                refine hK.out _ _ hHe2 ?_; clear hK K; simp only [lset]
                have hHeld := hHe2; clear hHe2
                refine take_s (i := 4) rfl (by kernel_rfl) (by kernel_rfl) (by kernel_rfl) (fun _ _ _ h => h) (Or.inl ⟨by rfl, by (intro w hSw; go_simp; try with_reducible rfl)⟩) rfl (by assumption) ?_; simp only [lset]
                refine wpAnyH_done (by kernel_rfl) ?_ _
                have HS := Lib.hid hHeld
                clear hHeld
                go_upto_region 7 with fail
                obtain ⟨a0, a16, a17, a18, d0, d16, d17, d18⟩ := HS.out.cs
                go_wp2_with (first | (refine ldP (k := 31) HS.out.k2 rfl (by kernel_rfl) rfl rfl ?_))
                with_reducible refine (CA.out _).mono ?_
                rintro e w2 ⟨rfl, b2⟩
                have HT := HS; clear HS
                have HS := Lib.hid (HT.out.step b2)
                clear HT b2 a0 a16 a17 a18 d0 d16 d17 d18
                obtain ⟨a0, a16, a17, a18, d0, d16, d17, d18⟩ := HS.out.cs
                cases yw
                · skip
                  cases xw
                  · skip
                    cases h1
                    · skip
                      go_wp2_with (first | (refine ldP (k := 62) HS.out.k2 rfl (by kernel_rfl) rfl rfl ?_))
                      with_reducible refine (C1.out _).mono ?_
                      rintro e w2 ⟨rfl, b2⟩
                      have HT := HS; clear HS
                      have HS := Lib.hid (HT.out.step b2)
                      clear HT b2 a0 a16 a17 a18 d0 d16 d17 d18
                      obtain ⟨a0, a16, a17, a18, d0, d16, d17, d18⟩ := HS.out.cs
                      go_wp2
                      go_ret
                      exact ⟨by simp, HS.out.b⟩
                    · skip
                      go_wp2_with (first | (refine ldP (k := 62) HS.out.k2 rfl (by kernel_rfl) rfl rfl ?_))
                      with_reducible refine (C1.out _).mono ?_
                      rintro e w2 ⟨rfl, b2⟩
                      have HT := HS; clear HS
                      have HS := Lib.hid (HT.out.step b2)
                      clear HT b2 a0 a16 a17 a18 d0 d16 d17 d18
                      obtain ⟨a0, a16, a17, a18, d0, d16, d17, d18⟩ := HS.out.cs
                      cases s1
                      · skip
                        go_wp2_with (first | (refine ldV (k := 67) (off := 1) (v := q.pv) HS.out.k2 rfl rfl (by omega) (by kernel_rfl) rfl rfl ?_) | (refine ldV (k := 69) (off := 1) (v := p.pv) HS.out.k rfl rfl (by omega) (by kernel_rfl) rfl rfl ?_))
                        with_reducible refine (E1.out _).mono ?_
                        rintro e w2 ⟨rfl, b2⟩
                        have HT := HS; clear HS
                        have HS := Lib.hid (HT.out.step b2)
                        clear HT b2 a0 a16 a17 a18 d0 d16 d17 d18
                        obtain ⟨a0, a16, a17, a18, d0, d16, d17, d18⟩ := HS.out.cs
                        go_wp2
                        go_ret
                        exact ⟨by simp, HS.out.b⟩
                      · skip
                        go_wp2_with (first | (refine ldV (k := 67) (off := 1) (v := q.pv) HS.out.k2 rfl rfl (by omega) (by kernel_rfl) rfl rfl ?_) | (refine ldV (k := 69) (off := 1) (v := p.pv) HS.out.k rfl rfl (by omega) (by kernel_rfl) rfl rfl ?_))
                        with_reducible refine (E1.out _).mono ?_
                        rintro e w2 ⟨rfl, b2⟩
                        have HT := HS; clear HS
                        have HS := Lib.hid (HT.out.step b2)
                        clear HT b2 a0 a16 a17 a18 d0 d16 d17 d18
                        obtain ⟨a0, a16, a17, a18, d0, d16, d17, d18⟩ := HS.out.cs
                        go_wp2
                        go_ret
                        exact ⟨by simp, HS.out.b⟩
                  · skip
                    go_wp2
                    go_ret
                    exact ⟨by simp, HS.out.b⟩
                · skip
                  go_wp2
                  go_ret
                  exact ⟨by simp, HS.out.b⟩
              · skip
                refine call_s (i := 3) (by kernel_rfl) rfl rfl (by rfl) (fun K hK => ?_)
                go_simp
                with_reducible refine (CB.out _).mono ?_
                rintro e w2 ⟨rfl, b2⟩
                have hHe2 := hHeld.step b2
                clear hHeld b2
                refine hK.out _ _ hHe2 ?_; clear hK K; simp only [lset]
                have hHeld := hHe2; clear hHe2
                refine take_s (i := 4) rfl (by kernel_rfl) (by kernel_rfl) (by kernel_rfl) (fun _ _ _ h => h) (Or.inl ⟨by rfl, by (intro w hSw; go_simp; try with_reducible rfl)⟩) rfl (by assumption) ?_; simp only [lset]
                refine wpAnyH_done (by kernel_rfl) ?_ _
                have HS := Lib.hid hHeld
                clear hHeld
                go_wp2
                go_ret
                exact ⟨by simp, HS.out.b⟩
          · skip
            go_wp2_with (first | (refine ldP (k := 18) HS.out.k2 rfl (by kernel_rfl) rfl rfl ?_))
            with_reducible refine (CA.out _).mono ?_
            rintro e w2 ⟨rfl, b2⟩
            have HT := HS; clear HS
            have HS := Lib.hid (HT.out.step b2)
            clear HT b2 a0 a16 a17 a18 d0 d16 d17 d18
            obtain ⟨a0, a16, a17, a18, d0, d16, d17, d18⟩ := HS.out.cs
            go_upto_region 5 with fail
            refine wp_region_held_drew (S := fun wx => S2 w wx p q) (by kernel_rfl) (HS.out.drew) (fun hHeld => ?_)
            clear HS a0 a16 a17 a18 d0 d16 d17 d18
            refine take_s (i := 0) rfl (by kernel_rfl) (by kernel_rfl) (by kernel_rfl) (fun _ _ _ h => h) (Or.inl ⟨by rfl, fun w hS => ldP_run hS.k2 rfl rfl⟩) rfl (by assumption) ?_; simp only [lset]
            refine take_s (i := 2) rfl (by kernel_rfl) (by kernel_rfl) (by kernel_rfl) (fun _ _ _ h => h) (Or.inl ⟨by rfl, fun w hS => ldP_run hS.k rfl rfl⟩) rfl (by assumption) ?_; simp only [lset]
            refine call_s (i := 1) (by kernel_rfl) rfl rfl (by rfl) (fun K hK => ?_)
            go_simp
            with_reducible refine (CA.out _).mono ?_
            rintro e w2 ⟨rfl, b2⟩
            have hHe2 := hHeld.step b2
            clear hHeld b2
            refine hK.out _ _ hHe2 ?_; clear hK K; simp only [lset]
            have hHeld := hHe2; clear hHe2
            cases hb
            · skip
              refine call_s (i := 3) (by kernel_rfl) rfl rfl (by rfl) (fun K hK => ?_)
              go_simp
              with_reducible refine (CB.out _).mono ?_
              rintro e w2 ⟨rfl, b2⟩
              have hHe2 := hHeld.step b2
              clear hHeld b2
              refine hK.out _ _ hHe2 ?_; clear hK K; simp only [lset]
              have hHeld := hHe2; clear hHe2
              refine take_s (i := 4) rfl (by kernel_rfl) (by kernel_rfl) (by kernel_rfl) (fun _ _ _ h => h) (Or.inl ⟨by rfl, by (intro w hSw; go_simp; try with_reducible rfl)⟩) rfl (by assumption) ?_; simp only [lset]
              refine wpAnyH_done (by kernel_rfl) ?_ _
              have HS := Lib.hid hHeld
              clear hHeld
              go_wp2
              go_ret
              exact ⟨by simp, HS.out.b⟩
            · skip
              refine call_s (i := 3) (by kernel_rfl) rfl rfl (by rfl) (fun K hK => ?_)
              go_simp
              with_reducible refine (CB.out _).mono ?_
              rintro e w2 ⟨rfl, b2⟩
              have hHe2 := hHeld.step b2
              clear hHeld b2
              refine hK.out _ _ hHe2 ?_; clear hK K; simp only [lset]
              have hHeld := hHe2; clear hHe2
              refine take_s (i := 4) rfl (by kernel_rfl) (by kernel_rfl) (by kernel_rfl) (fun _ _ _ h => h) (Or.inl ⟨by rfl, by (intro w hSw; go_simp; try with_reducible rfl)⟩) rfl (by assumption) ?_; simp only [lset]
              refine wpAnyH_done (by kernel_rfl) ?_ _
              have HS := Lib.hid hHeld
              clear hHeld
              go_upto_region 7 with fail
              obtain ⟨a0, a16, a17, a18, d0, d16, d17, d18⟩ := HS.out.cs
              go_wp2_with (first | (refine ldP (k := 31) HS.out.k2 rfl (by kernel_rfl) rfl rfl ?_))
              with_reducible refine (CA.out _).mono ?_
              rintro e w2 ⟨rfl, b2⟩
              have HT := HS; clear HS
              have HS := Lib.hid (HT.out.step b2)
              clear HT b2 a0 a16 a17 a18 d0 d16 d17 d18
              obtain ⟨a0, a16, a17, a18, d0, d16, d17, d18⟩ := HS.out.cs
              cases h2
              · skip
                go_wp2_with (first | (refine ldP (k := 33) HS.out.k2 rfl (by kernel_rfl) rfl rfl ?_))
                with_reducible refine (C2.out _).mono ?_
                rintro e w2 ⟨rfl, b2⟩
                have HT := HS; clear HS
                have HS := Lib.hid (HT.out.step b2)
                clear HT b2 a0 a16 a17 a18 d0 d16 d17 d18
                obtain ⟨a0, a16, a17, a18, d0, d16, d17, d18⟩ := HS.out.cs
                cases h4
                · skip
                  go_wp2_with (first | (refine ldP (k := 44) HS.out.k2 rfl (by kernel_rfl) rfl rfl ?_))
                  with_reducible refine (C4.out _).mono ?_
                  rintro e w2 ⟨rfl, b2⟩
                  have HT := HS; clear HS
                  have HS := Lib.hid (HT.out.step b2)
                  clear HT b2 a0 a16 a17 a18 d0 d16 d17 d18
                  obtain ⟨a0, a16, a17, a18, d0, d16, d17, d18⟩ := HS.out.cs
                  go_wp2
                  go_ret
                  exact ⟨by simp, HS.out.b⟩
                · skip
                  go_wp2_with (first | (refine ldP (k := 44) HS.out.k2 rfl (by kernel_rfl) rfl rfl ?_))
                  with_reducible refine (C4.out _).mono ?_
                  rintro e w2 ⟨rfl, b2⟩
                  have HT := HS; clear HS
                  have HS := Lib.hid (HT.out.step b2)
                  clear HT b2 a0 a16 a17 a18 d0 d16 d17 d18
                  obtain ⟨a0, a16, a17, a18, d0, d16, d17, d18⟩ := HS.out.cs
                  cases s3
                  · skip
                    go_wp2_with (first | (refine ldV (k := 49) (off := 11) (v := q.pt) HS.out.k2 rfl rfl (by omega) (by kernel_rfl) rfl rfl ?_) | (refine ldV (k := 51) (off := 11) (v := p.pt) HS.out.k rfl rfl (by omega) (by kernel_rfl) rfl rfl ?_))
                    with_reducible refine (E3.out _).mono ?_
                    rintro e w2 ⟨rfl, b2⟩
                    have HT := HS; clear HS
                    have HS := Lib.hid (HT.out.step b2)
                    clear HT b2 a0 a16 a17 a18 d0 d16 d17 d18
                    obtain ⟨a0, a16, a17, a18, d0, d16, d17, d18⟩ := HS.out.cs
                    go_wp2
                    go_ret
                    exact ⟨by simp, HS.out.b⟩
                  · skip
                    go_wp2_with (first | (refine ldV (k := 49) (off := 11) (v := q.pt) HS.out.k2 rfl rfl (by omega) (by kernel_rfl) rfl rfl ?_) | (refine ldV (k := 51) (off := 11) (v := p.pt) HS.out.k rfl rfl (by omega) (by kernel_rfl) rfl rfl ?_))
                    with_reducible refine (E3.out _).mono ?_
                    rintro e w2 ⟨rfl, b2⟩
                    have HT := HS; clear HS
                    have HS := Lib.hid (HT.out.step b2)
                    clear HT b2 a0 a16 a17 a18 d0 d16 d17 d18
                    obtain ⟨a0, a16, a17, a18, d0, d16, d17, d18⟩ := HS.out.cs
                    go_wp2
                    go_ret
                    exact ⟨by simp, HS.out.b⟩
              · skip
                go_wp2_with (first | (refine ldP (k := 33) HS.out.k2 rfl (by kernel_rfl) rfl rfl ?_))
                with_reducible refine (C2.out _).mono ?_
                rintro e w2 ⟨rfl, b2⟩
                have HT := HS; clear HS
                have HS := Lib.hid (HT.out.step b2)
                clear HT b2 a0 a16 a17 a18 d0 d16 d17 d18
                obtain ⟨a0, a16, a17, a18, d0, d16, d17, d18⟩ := HS.out.cs
                cases s2
                · skip
                  go_wp2_with (first | (refine ldV (k := 38) (off := 6) (v := q.pg) HS.out.k2 rfl rfl (by omega) (by kernel_rfl) rfl rfl ?_) | (refine ldV (k := 40) (off := 6) (v := p.pg) HS.out.k rfl rfl (by omega) (by kernel_rfl) rfl rfl ?_))
                  with_reducible refine (E2.out _).mono ?_
                  rintro e w2 ⟨rfl, b2⟩
                  have HT := HS; clear HS
                  have HS := Lib.hid (HT.out.step b2)
                  clear HT b2 a0 a16 a17 a18 d0 d16 d17 d18
                  obtain ⟨a0, a16, a17, a18, d0, d16, d17, d18⟩ := HS.out.cs
                  go_wp2
                  go_ret
                  exact ⟨by simp, HS.out.b⟩
                · skip
                  go_wp2_with (first | (refine ldV (k := 38) (off := 6) (v := q.pg) HS.out.k2 rfl rfl (by omega) (by kernel_rfl) rfl rfl ?_) | (refine ldV (k := 40) (off := 6) (v := p.pg) HS.out.k rfl rfl (by omega) (by kernel_rfl) rfl rfl ?_))
                  with_reducible refine (E2.out _).mono ?_
                  rintro e w2 ⟨rfl, b2⟩
                  have HT := HS; clear HS
                  have HS := Lib.hid (HT.out.step b2)
                  clear HT b2 a0 a16 a17 a18 d0 d16 d17 d18
                  obtain ⟨a0, a16, a17, a18, d0, d16, d17, d18⟩ := HS.out.cs
                  cases h4
                  · skip
                    go_wp2_with (first | (refine ldP (k := 44) HS.out.k2 rfl (by kernel_rfl) rfl rfl ?_))
                    with_reducible refine (C4.out _).mono ?_
                    rintro e w2 ⟨rfl, b2⟩
                    have HT := HS; clear HS
                    have HS := Lib.hid (HT.out.step b2)
                    clear HT b2 a0 a16 a17 a18 d0 d16 d17 d18
                    obtain ⟨a0, a16, a17, a18, d0, d16, d17, d18⟩ := HS.out.cs
                    go_wp2
                    go_ret
                    exact ⟨by simp, HS.out.b⟩
                  · skip
                    go_wp2_with (first | (refine ldP (k := 44) HS.out.k2 rfl (by kernel_rfl) rfl rfl ?_))
                    with_reducible refine (C4.out _).mono ?_
                    rintro e w2 ⟨rfl, b2⟩
                    have HT := HS; clear HS
                    have HS := Lib.hid (HT.out.step b2)
                    clear HT b2 a0 a16 a17 a18 d0 d16 d17 d18
                    obtain ⟨a0, a16, a17, a18, d0, d16, d17, d18⟩ := HS.out.cs
                    cases s3
                    · skip
                      go_wp2_with (first | (refine ldV (k := 49) (off := 11) (v := q.pt) HS.out.k2 rfl rfl (by omega) (by kernel_rfl) rfl rfl ?_) | (refine ldV (k := 51) (off := 11) (v := p.pt) HS.out.k rfl rfl (by omega) (by kernel_rfl) rfl rfl ?_))
                      with_reducible refine (E3.out _).mono ?_
                      rintro e w2 ⟨rfl, b2⟩
                      have HT := HS; clear HS
                      have HS := Lib.hid (HT.out.step b2)
                      clear HT b2 a0 a16 a17 a18 d0 d16 d17 d18
                      obtain ⟨a0, a16, a17, a18, d0, d16, d17, d18⟩ := HS.out.cs
                      go_wp2
                      go_ret
                      exact ⟨by simp, HS.out.b⟩
                    · skip
                      go_wp2_with (first | (refine ldV (k := 49) (off := 11) (v := q.pt) HS.out.k2 rfl rfl (by omega) (by kernel_rfl) rfl rfl ?_) | (refine ldV (k := 51) (off := 11) (v := p.pt) HS.out.k rfl rfl (by omega) (by kernel_rfl) rfl rfl ?_))
                      with_reducible refine (E3.out _).mono ?_
                      rintro e w2 ⟨rfl, b2⟩
                      have HT := HS; clear HS
                      have HS := Lib.hid (HT.out.step b2)
                      clear HT b2 a0 a16 a17 a18 d0 d16 d17 d18
                      obtain ⟨a0, a16, a17, a18, d0, d16, d17, d18⟩ := HS.out.cs
                      go_wp2
                      go_ret
                      exact ⟨by simp, HS.out.b⟩
  · skip
    go_wp2
    go_ret
    exact ⟨by simp, HS.out.b⟩
end Go.Proofs.Ytlkgijinckhkkaa
