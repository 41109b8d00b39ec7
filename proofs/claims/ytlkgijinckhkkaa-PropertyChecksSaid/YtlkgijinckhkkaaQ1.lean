/-
  The program's small functions of descriptors: has, Accessor, Data, generic, bare, Plain, called, alike, withoutValues, stays.
-/
import Derived.Test.YtlkgijinckhkkaaF10
import Derived.Test.YtlkgijinckhkkaaV3
import Derived.Deep.MidRow
namespace Go.Proofs.Ytlkgijinckhkkaa
open Go.RowKit
attribute [local go_sem] stF
attribute [local go_sem high] eql_vals neq_vals

theorem Blk.there {W : World} {g off n : Nat} {p : Prp} (h : Blk W g p) (hn : off + n ≤ 19) : W.there g off n := fun j hj => by
  refine ⟨?_, h.frozen _⟩
  have hk : off + j < (celP p).size := by show off + j < 19; omega
  rw [cell_of_row W g (off + j) _ _ _ h, Array.getElem?_eq_getElem hk]
  rfl
theorem setCells5 {W : World} {g off : Nat} {p r : Prp} {v : Val} (h : Blk W g p) (hr : ((((((celP p).setIfInBounds off (.int .i64 v.vk)).setIfInBounds (off + 1) (.bool v.vb)).setIfInBounds (off + 2) (.float .f64 v.vn)).setIfInBounds (off + 3) (.string v.vs)).setIfInBounds (off + 4) (.int .i64 v.vo)) = celP r) :
    W.setCells g off (celV v).toList = W.setRow g (celP r) := by
  have e : (celV v).toList = [.int .i64 v.vk, .bool v.vb, .float .f64 v.vn, .string v.vs, .int .i64 v.vo] := rfl
  rw [e]
  simp only [World.setCells]
  unfold Blk at h
  rw [setCell_eq_setRow W g off _ _ _ _ h]
  rw [setCell_eq_setRow _ g (off + 1) _ _ _ _ (setRow_heap _ _ _ _ _ _ h), setRow_setRow]
  rw [setCell_eq_setRow _ g (off + 1 + 1) _ _ _ _ (setRow_heap _ _ _ _ _ _ h), setRow_setRow]
  rw [setCell_eq_setRow _ g (off + 1 + 1 + 1) _ _ _ _ (setRow_heap _ _ _ _ _ _ h), setRow_setRow]
  rw [setCell_eq_setRow _ g (off + 1 + 1 + 1 + 1) _ _ _ _ (setRow_heap _ _ _ _ _ _ h), setRow_setRow]
  rw [← hr]
theorem stV {ops : Array Oper} {rest : List Oper} {o : Oper} {a : Act} {w : World} {Q : Exit → Act → World → Prop} {x y : Operand} {g : Nat} {p : Prp} (off : Nat) (v : Val) (r : Prp) (hg : Blk w g p) (hgd : o.guard = none) (ho : o.op = .store 24 x y)
    (hx : a.eval x = .pointer (some ⟨g, off, none⟩)) (hy : a.eval y = .agg (celV v)) (hd : o.dst = none) (hn : off + 5 ≤ 19)
    (hr : ((((((celP p).setIfInBounds off (.int .i64 v.vk)).setIfInBounds (off + 1) (.bool v.vb)).setIfInBounds (off + 2) (.float .f64 v.vn)).setIfInBounds (off + 3) (.string v.vs)).setIfInBounds (off + 4) (.int .i64 v.vo)) = celP r)
    (h : wpList Try.prog ops Q rest a (w.setRow g (celP r))) : wpList Try.prog ops Q (o :: rest) a w := by
  refine wpList_store_mid hgd 24 x y ho g off (celV v) hx hy (hg.there hn) (by kernel_rfl) (by simp [celV, Value.oneCell']) ?_
  rw [setCells5 hg hr, hd]
  exact h
theorem stB {ops : Array Oper} {rest : List Oper} {o : Oper} {a : Act} {w : World} {Q : Exit → Act → World → Prop} {x y : Operand} {g : Nat} {p : Prp} (off : Nat) (u : Bool) (r : Prp) (hg : Blk w g p) (hgd : o.guard = none) (ho : o.op = .store 4 x y)
    (hx : a.eval x = .pointer (some ⟨g, off, none⟩)) (hy : a.eval y = .bool u) (hd : o.dst = none) (hn : off < 19) (hr : (celP p).setIfInBounds off (.bool u) = celP r)
    (h : wpList Try.prog ops Q rest a (w.setRow g (celP r))) : wpList Try.prog ops Q (o :: rest) a w := by
  obtain ⟨c, hc⟩ := Option.isSome_iff_exists.1 ((hg.there (off := off) (n := 1) (by omega)) 0 (by omega)).1
  have f := hg.frozen off
  have hs : (Instr.storeAt 4 (.pointer (some ⟨g, off, none⟩)) (.bool u)).run Try.prog w = .ok () (w.setCell ⟨g, off, none⟩ (.bool u)) := by
    simp only [Nat.add_zero] at hc
    go_simp
  refine wpList_plain hgd fun _ hK => ?_
  unfold Oper.wp execOp
  simp only [ho, hx, hy, hs, Sem.run_bind, Sem.run_pure, Result.andThen_ok]
  rw [setCell_eq_setRow w g off _ _ _ _ hg, hr, Oper.upon_skip, hd]
  exact hK _ _ h
theorem stI {ops : Array Oper} {rest : List Oper} {o : Oper} {a : Act} {w : World} {Q : Exit → Act → World → Prop} {x y : Operand} {g : Nat} {p : Prp} (u : Int) (hg : Blk w g p) (hgd : o.guard = none) (ho : o.op = .store 3 x y)
    (hx : a.eval x = .pointer (some ⟨g, 0, none⟩)) (hy : a.eval y = .int .i64 u) (hd : o.dst = none)
    (h : wpList Try.prog ops Q rest a (w.setRow g (celP { p with ph := u }))) : wpList Try.prog ops Q (o :: rest) a w := by
  have c := hg.cell (k := 0) rfl
  have f := hg.frozen 0
  have hs : (Instr.storeAt 3 (.pointer (some ⟨g, 0, none⟩)) (.int .i64 u)).run Try.prog w = .ok () (w.setCell ⟨g, 0, none⟩ (.int .i64 u)) := by
    go_simp
  refine wpList_plain hgd fun _ hK => ?_
  unfold Oper.wp execOp
  simp only [ho, hx, hy, hs, Sem.run_bind, Sem.run_pure, Result.andThen_ok]
  rw [setCell_eq_setRow w g 0 _ _ _ _ hg, Oper.upon_skip, hd]
  exact hK _ _ h
theorem storeP_s {md : Region.Mode} {ops : Array Oper} {Q : Exit → Act → World → Prop} {S : World → Prop} {i fuel g : Nat} {oi : Oper} {listed : Array Bool} {l : List Value} {d : List Deferred} {w : World} {x y : Operand} {p old : Prp}
    (hg : Blk w g old) (hr : Region.ready md ops listed = [i]) (hi : ops[i]? = some oi) (hd : oi.dst = none) (hw : Region.wanted oi (yielded ops l.toArray) = true) (ho : oi.op = .store 26 x y)
    (hx : Act.eval { tmps := l.toArray, defers := d } x = .pointer (some ⟨g, 0, none⟩)) (hy : Act.eval { tmps := l.toArray, defers := d } y = .agg (celP p)) (hS : S (w.setRow g (celP p)))
    (h : wpAnyH Try.prog md ops Q S fuel (listed.setIfInBounds i true) { tmps := l.toArray, defers := d } (w.setRow g (celP p))) : wpAnyH Try.prog md ops Q S (fuel + 1) listed { tmps := l.toArray, defers := d } w :=
  wpAnyH_ready hr (by simp) (AllReadyH.cons hi (fun K hK => by
    rw [if_pos hw]
    refine wp_store_row 26 x y ho g (celP p) hx hy 26 (celP old) hg (by kernel_rfl) rfl (by kernel_rfl) ?_
    rw [hd]
    exact hK.out _ _ hS (fun _ => h)) AllReadyH.nil)
theorem bldP_run {o : Oper} {a : Act} {w : World} (ho : o.op = .build 26 #[]) : (execOp a.eval o).run Try.prog w = .ok (.value (.agg (celP zPrp))) w := by
  unfold execOp
  simp only [ho]
  go_simp
  rfl
theorem S1.row {w W : World} {p : Prp} (h : S1 w W p) (r : Prp) : S1 w (W.setRow w.heap.size (celP r)) r :=
  ⟨setRow_heap _ _ _ _ _ _ h.k, by rw [setRow_size]; exact h.l, below_setRowK h.b (Nat.le_refl _) _⟩
theorem S2.row1 {w W : World} {p q : Prp} (h : S2 w W p q) (r : Prp) : S2 w (W.setRow w.heap.size (celP r)) r q :=
  ⟨setRow_heap _ _ _ _ _ _ h.k, (setRow_other _ _ _ _ (by omega)).trans h.k2, by rw [setRow_size]; exact h.l, below_setRowK h.b (Nat.le_refl _) _⟩
theorem S2.row2 {w W : World} {p q : Prp} (h : S2 w W p q) (r : Prp) : S2 w (W.setRow (w.heap.size + 1) (celP r)) p r :=
  ⟨(setRow_other _ _ _ _ (by omega)).trans h.k, setRow_heap _ _ _ _ _ _ h.k2, by rw [setRow_size]; exact h.l, below_setRowK h.b (by omega) _⟩
/-- Three blocks: both parameters' and the answer's. -/
structure S3r (w W : World) (p q r : Prp) : Prop where
  k : Blk W w.heap.size p
  k2 : Blk W (w.heap.size + 1) q
  kr : Blk W (w.heap.size + 2) r
  l : w.heap.size + 2 < W.heap.size
  b : Below w.heap.size w W
theorem S3r.of {w W : World} {p q : Prp} (h : S3 w W p q) : S3r w W p q zPrp := ⟨h.k, h.k2, h.kr, h.l, h.b⟩
theorem S3r.step {w W W' : World} {p q r : Prp} (h : S3r w W p q r) (hb : Below W.heap.size W W') : S3r w W' p q r :=
  ⟨h.k.below hb (by have := h.l; omega), h.k2.below hb (by have := h.l; omega), h.kr.below hb h.l, Nat.lt_of_lt_of_le h.l hb.size, below_le h.b hb⟩
theorem S3r.drew {w W : World} {p q r : Prp} (h : S3r w W p q r) : S3r w W.drew p q r := ⟨h.k, h.k2, h.kr, h.l, below_drewN' h.b 1⟩
theorem S3r.row1 {w W : World} {p q r : Prp} (h : S3r w W p q r) (s : Prp) : S3r w (W.setRow w.heap.size (celP s)) s q r :=
  ⟨setRow_heap _ _ _ _ _ _ h.k, (setRow_other _ _ _ _ (by omega)).trans h.k2, (setRow_other _ _ _ _ (by omega)).trans h.kr, by rw [setRow_size]; exact h.l, below_setRowK h.b (Nat.le_refl _) _⟩
theorem S3r.row3 {w W : World} {p q r : Prp} (h : S3r w W p q r) (s : Prp) : S3r w (W.setRow (w.heap.size + 2) (celP s)) p q s :=
  ⟨(setRow_other _ _ _ _ (by omega)).trans h.k, (setRow_other _ _ _ _ (by omega)).trans h.k2, setRow_heap _ _ _ _ _ _ h.kr, by rw [setRow_size]; exact h.l, below_setRowK h.b (by omega) _⟩
theorem S3r.cs {w W : World} {p q r : Prp} (h : S3r w W p q r) : W.cell? ⟨w.heap.size, 0, none⟩ = some (.int .i64 p.ph) ∧ W.cell? ⟨w.heap.size, 16, none⟩ = some (.bool p.pw) ∧ W.cell? ⟨w.heap.size, 17, none⟩ = some (.bool p.pe) ∧ W.cell? ⟨w.heap.size, 18, none⟩ = some (.bool p.pc) ∧
    W.cell? ⟨w.heap.size + 1, 0, none⟩ = some (.int .i64 q.ph) ∧ W.cell? ⟨w.heap.size + 1, 16, none⟩ = some (.bool q.pw) ∧ W.cell? ⟨w.heap.size + 1, 17, none⟩ = some (.bool q.pe) ∧ W.cell? ⟨w.heap.size + 1, 18, none⟩ = some (.bool q.pc) :=
  ⟨h.k.cell rfl, h.k.cell rfl, h.k.cell rfl, h.k.cell rfl, h.k2.cell rfl, h.k2.cell rfl, h.k2.cell rfl, h.k2.cell rfl⟩
set_option maxRecDepth 100000 in
set_option maxHeartbeats 1000000 in
theorem ghas_any (p : Prp) (m : Int) (w : World) : Calls Try.prog 28 #[prpV p, .int .i64 m] w fun e w' => e = .returned (.bool (hasB p.ph m)) ∧ Below w.heap.size w w' := by
  unfold prpV hasB
  go_enter Try.func28, Try.ntmps28
  go_upto_region 1 with fail
  obtain ⟨W1, hW1⟩ : ∃ W1, w.alloc (.cells (celP p) 26) = W1 := ⟨_, rfl⟩
  obtain ⟨hk, hb, _⟩ := blk_new hW1
  have c0 := hk.cell (k := 0) (v := .int .i64 p.ph) rfl
  have HB := Lib.hid hb
  rw [hW1]
  clear hW1 hk hb
  go_wp2
  go_ret
  exact ⟨rfl, HB.out⟩
set_option maxRecDepth 100000 in
set_option maxHeartbeats 1000000 in
theorem gAccessor_any (p : Prp) (w : World) : Calls Try.prog 9 #[prpV p] w fun e w' => e = .returned (.bool (hasB p.ph 6)) ∧ Below w.heap.size w w' := by
  have C1 := Lib.hid (fun W => ghas_any p 6 W)
  unfold prpV at C1 ⊢
  go_enter Try.func9, Try.ntmps9
  go_upto_region 1 with fail
  obtain ⟨W1, hW1⟩ : ∃ W1, w.alloc (.cells (celP p) 26) = W1 := ⟨_, rfl⟩
  obtain ⟨hk, hb, _⟩ := blk_new hW1
  have HK := Lib.hid hk
  have HB := Lib.hid hb
  rw [hW1]
  clear hW1 hk hb
  go_wp2_with (refine ldP (k := 3) HK.out rfl (by kernel_rfl) rfl rfl ?_)
  with_reducible refine (C1.out _).mono ?_
  rintro e w2 ⟨rfl, b2⟩
  go_wp2
  go_ret
  exact ⟨rfl, below_le HB.out b2⟩
set_option maxRecDepth 100000 in
set_option maxHeartbeats 1000000 in
theorem gData_any (p : Prp) (w : World) : Calls Try.prog 11 #[prpV p] w fun e w' => e = .returned (.bool (hasB p.ph 9)) ∧ Below w.heap.size w w' := by
  have C1 := Lib.hid (fun W => ghas_any p 9 W)
  unfold prpV at C1 ⊢
  go_enter Try.func11, Try.ntmps11
  go_upto_region 1 with fail
  obtain ⟨W1, hW1⟩ : ∃ W1, w.alloc (.cells (celP p) 26) = W1 := ⟨_, rfl⟩
  obtain ⟨hk, hb, _⟩ := blk_new hW1
  have HK := Lib.hid hk
  have HB := Lib.hid hb
  rw [hW1]
  clear hW1 hk hb
  go_wp2_with (refine ldP (k := 3) HK.out rfl (by kernel_rfl) rfl rfl ?_)
  with_reducible refine (C1.out _).mono ?_
  rintro e w2 ⟨rfl, b2⟩
  go_wp2
  go_ret
  exact ⟨rfl, below_le HB.out b2⟩
set_option maxRecDepth 100000 in
set_option maxHeartbeats 2000000 in
theorem ggeneric_any (p : Prp) (w : World) : Calls Try.prog 41 #[prpV p] w fun e w' => e = .returned (.bool (!hasB p.ph 6 && !hasB p.ph 9)) ∧ Below w.heap.size w w' := by
  have CA := fun W => gAccessor_any p W
  have CD := fun W => gData_any p W
  obtain ⟨ha, e_ha⟩ : ∃ b, hasB p.ph 6 = b := ⟨_, rfl⟩
  obtain ⟨hd, e_hd⟩ : ∃ b, hasB p.ph 9 = b := ⟨_, rfl⟩
  rw [e_ha] at CA ⊢
  rw [e_hd] at CD ⊢
  clear e_ha e_hd
  have CA := Lib.hid CA
  have CD := Lib.hid CD
  unfold prpV at CA CD ⊢
  go_enter Try.func41, Try.ntmps41
  go_upto_region 1 with fail
  obtain ⟨W1, hW1⟩ : ∃ W1, w.alloc (.cells (celP p) 26) = W1 := ⟨_, rfl⟩
  have HS := Lib.hid (S1.new hW1)
  obtain ⟨c0, c16, c17, c18⟩ := HS.out.cs
  rw [hW1]
  clear hW1
  cases ha
  · skip
    go_wp2_with (first | (refine ldP (k := 3) HS.out.k rfl (by kernel_rfl) rfl rfl ?_))
    with_reducible refine (CA.out _).mono ?_
    rintro e w2 ⟨rfl, b2⟩
    have HT := HS; clear HS
    have HS := Lib.hid (HT.out.step b2)
    clear HT b2 c0 c16 c17 c18
    obtain ⟨c0, c16, c17, c18⟩ := HS.out.cs
    cases hd
    · skip
      go_wp2_with (first | (refine ldP (k := 7) HS.out.k rfl (by kernel_rfl) rfl rfl ?_))
      with_reducible refine (CD.out _).mono ?_
      rintro e w2 ⟨rfl, b2⟩
      have HT := HS; clear HS
      have HS := Lib.hid (HT.out.step b2)
      clear HT b2 c0 c16 c17 c18
      obtain ⟨c0, c16, c17, c18⟩ := HS.out.cs
      go_wp2
      go_ret
      exact ⟨rfl, HS.out.b⟩
    · skip
      go_wp2_with (first | (refine ldP (k := 7) HS.out.k rfl (by kernel_rfl) rfl rfl ?_))
      with_reducible refine (CD.out _).mono ?_
      rintro e w2 ⟨rfl, b2⟩
      have HT := HS; clear HS
      have HS := Lib.hid (HT.out.step b2)
      clear HT b2 c0 c16 c17 c18
      obtain ⟨c0, c16, c17, c18⟩ := HS.out.cs
      go_wp2
      go_ret
      exact ⟨rfl, HS.out.b⟩
  · skip
    go_wp2_with (first | (refine ldP (k := 3) HS.out.k rfl (by kernel_rfl) rfl rfl ?_))
    with_reducible refine (CA.out _).mono ?_
    rintro e w2 ⟨rfl, b2⟩
    have HT := HS; clear HS
    have HS := Lib.hid (HT.out.step b2)
    clear HT b2 c0 c16 c17 c18
    obtain ⟨c0, c16, c17, c18⟩ := HS.out.cs
    go_wp2
    go_ret
    exact ⟨rfl, HS.out.b⟩
def bareP (b : Bool) : Prp := { zPrp with ph := if b = true then 54 else 57 }
set_option maxRecDepth 100000 in
set_option maxHeartbeats 2000000 in
theorem gbare_true (w : World) : Calls Try.prog 30 #[.bool true] w fun e w' => e = .returned (.agg (celP { zPrp with ph := 54 })) ∧ Below w.heap.size w w' := by
  go_enter Try.func30, Try.ntmps30
  go_upto_region 1 with fail
  rw [celP_zero]
  obtain ⟨W1, hW1⟩ : ∃ W1, w.alloc (.cells (celP zPrp) 26) = W1 := ⟨_, rfl⟩
  have HS := Lib.hid (S1.new hW1)
  have HR := Lib.hid (HS.out.row { zPrp with ph := 54 })
  rw [hW1]
  clear hW1
  go_wp2_with (refine stP (p := { zPrp with ph := 54 }) HS.out.k rfl rfl rfl rfl rfl ?_)
  refine prR HR.out.k rfl rfl rfl ⟨rfl, HR.out.b⟩
set_option maxRecDepth 100000 in
set_option maxHeartbeats 2000000 in
theorem gbare_false (w : World) : Calls Try.prog 30 #[.bool false] w fun e w' => e = .returned (.agg (celP { zPrp with ph := 57 })) ∧ Below w.heap.size w w' := by
  go_enter Try.func30, Try.ntmps30
  go_upto_region 1 with fail
  rw [celP_zero]
  obtain ⟨W1, hW1⟩ : ∃ W1, w.alloc (.cells (celP zPrp) 26) = W1 := ⟨_, rfl⟩
  have HS := Lib.hid (S1.new hW1)
  have HR := Lib.hid (HS.out.row { zPrp with ph := 57 })
  rw [hW1]
  clear hW1
  go_wp2_with (refine stP (p := { zPrp with ph := 57 }) HS.out.k rfl rfl rfl rfl rfl ?_)
  refine prR HR.out.k rfl rfl rfl ⟨rfl, HR.out.b⟩
theorem gbare_any (b : Bool) (w : World) : Calls Try.prog 30 #[.bool b] w fun e w' => e = .returned (.agg (celP (bareP b))) ∧ Below w.heap.size w w' := by
  cases b
  · exact gbare_false w
  · exact gbare_true w
/-- A value's block and a descriptor's. -/
structure SV (w W : World) (v : Val) (p : Prp) : Prop where
  k : BlkV W w.heap.size v
  k2 : Blk W (w.heap.size + 1) p
  l : w.heap.size + 1 < W.heap.size
  b : Below w.heap.size w W
theorem SV.new {w W1 W2 : World} {v : Val} {q : Prp} (h : w.alloc (.cells (celV v) 24) = W1) (g : W1.alloc (.cells (celP q) 26) = W2) : SV w W2 v q := by
  obtain ⟨a, b, c⟩ := blkV_new h
  obtain ⟨a2, b2, c2⟩ := blk_new g
  rw [c] at a2
  exact ⟨a.below b2 (by omega), a2, by omega, below_le b b2⟩
theorem SV.row {w W : World} {v : Val} {p : Prp} (h : SV w W v p) (r : Prp) : SV w (W.setRow (w.heap.size + 1) (celP r)) v r :=
  ⟨(setRow_other _ _ _ _ (by omega)).trans h.k, setRow_heap _ _ _ _ _ _ h.k2, by rw [setRow_size]; exact h.l, below_setRowK h.b (by omega) _⟩
theorem ldXw {ops : Array Oper} {rest : List Oper} {o : Oper} {a : Act} {w : World} {Q : Exit → Act → World → Prop} {x : Operand} {g k : Nat} {v : Val} (hg : BlkV w g v) (hd : o.dst = some k) (hw : Region.wanted o (yielded ops a.tmps) = true) (ho : o.op = .load 24 x)
    (hx : a.eval x = .pointer (some ⟨g, 0, none⟩)) (h : wpList Try.prog ops Q rest (a.put (some k) (.agg #[.int .i64 v.vk, .bool v.vb, .float .f64 v.vn, .string v.vs, .int .i64 v.vo])) w) : wpList Try.prog ops Q (o :: rest) a w :=
  ldX hg hd hw ho hx h
set_option maxRecDepth 100000 in
set_option maxHeartbeats 2000000 in
theorem gPlain_any (v : Val) (a b c : Bool) (w : World) : Calls Try.prog 31 #[valV v, .bool a, .bool b, .bool c] w fun e w' => e = .returned (prpV ⟨57, v, zVal, zVal, a, b, c⟩) ∧ Below w.heap.size w w' := by
  have e0 := show valV v = .agg (celV v) from rfl
  rw [e0]
  clear e0
  go_enter Try.func31, Try.ntmps31
  go_upto_region 1 with fail
  rw [celP_zero]
  obtain ⟨W1, hW1⟩ : ∃ W1, w.alloc (.cells (celV v) 24) = W1 := ⟨_, rfl⟩
  rw [hW1]
  obtain ⟨W2, hW2⟩ : ∃ W2, W1.alloc (.cells (celP zPrp) 26) = W2 := ⟨_, rfl⟩
  have HS := Lib.hid (SV.new hW1 hW2)
  have HR := Lib.hid (HS.out.row ⟨57, v, zVal, zVal, a, b, c⟩)
  rw [hW2]
  clear hW1 hW2
  go_wp2_with (first | (refine ldXw (k := 9) HS.out.k rfl (by kernel_rfl) rfl rfl ?_) | (refine stP (p := ⟨57, v, zVal, zVal, a, b, c⟩) HS.out.k2 rfl rfl rfl rfl rfl ?_))
  refine prR HR.out.k2 rfl rfl rfl ⟨rfl, HR.out.b⟩
set_option maxRecDepth 100000 in
set_option maxHeartbeats 2000000 in
theorem gcalled_any (v : Val) (w : World) (hs : v.vs.size ≤ maxLen) : Calls Try.prog 23 #[valV v] w fun e w' => e = .returned (.bool (calleeB v)) ∧ Below w.heap.size w w' := by
  have C1 := fun W => eCheck_any v W hs
  unfold calleeB
  obtain ⟨M, hM⟩ : ∃ b, mayB v = b := ⟨_, rfl⟩
  obtain ⟨K, hK⟩ : ∃ b, (v.vk == 0) = b := ⟨_, rfl⟩
  obtain ⟨J, hJ⟩ : ∃ b, (v.vk == 5) = b := ⟨_, rfl⟩
  rw [hM] at C1 ⊢
  rw [hK, hJ]
  clear hM hs
  have e0 := show valV v = .agg (celV v) from rfl
  rw [e0] at C1 ⊢
  clear e0
  cases M
  · rw [if_neg (by simp)] at C1
    have C1 := Lib.hid C1
    go_enter Try.func23, Try.ntmps23
    go_upto_region 1 with fail
    obtain ⟨W1, hW1⟩ : ∃ W1, w.alloc (.cells (celV v) 24) = W1 := ⟨_, rfl⟩
    have HS := Lib.hid (T1.new hW1)
    rw [hW1]
    clear hW1
    go_wp2_with (refine ldX (k := 3) HS.out.k rfl (by kernel_rfl) rfl rfl ?_)
    with_reducible refine (C1.out _).mono ?_
    rintro e w2 ⟨rfl, b2⟩
    have HT := Lib.hid (HS.out.step b2)
    clear HS b2 C1
    go_wp2
    go_ret
    exact ⟨by simp, HT.out.b⟩
  · rw [if_pos rfl] at C1
    have C1 := Lib.hid C1
    go_enter Try.func23, Try.ntmps23
    go_upto_region 1 with fail
    obtain ⟨W1, hW1⟩ : ∃ W1, w.alloc (.cells (celV v) 24) = W1 := ⟨_, rfl⟩
    have HS := Lib.hid (T1.new hW1)
    rw [hW1]
    clear hW1
    go_wp2_with (refine ldX (k := 3) HS.out.k rfl (by kernel_rfl) rfl rfl ?_)
    with_reducible refine (C1.out _).mono ?_
    rintro e w2 ⟨rfl, b2⟩
    have HT := Lib.hid (HS.out.step b2)
    clear HS b2 C1
    obtain ⟨c0, c1, c2, c3, c4⟩ := HT.out.cs
    cases K
    · go_wp2
      go_ret
      exact ⟨by simp, HT.out.b⟩
    · go_wp2
      go_ret
      exact ⟨by simp, HT.out.b⟩
theorem T2.nul1 {w W : World} {x y : Val} (h : T2 w W x y) : T2 w (W.setRow w.heap.size (celV (nulN x))) (nulN x) y :=
  ⟨setRow_heap _ _ _ _ _ _ h.k, (setRow_other _ _ _ _ (by omega)).trans h.k2, by rw [setRow_size]; exact h.l, below_setRowK h.b (Nat.le_refl _) _⟩
theorem T2.nul2 {w W : World} {x y : Val} (h : T2 w W x y) : T2 w (W.setRow (w.heap.size + 1) (celV (nulN y))) x (nulN y) :=
  ⟨(setRow_other _ _ _ _ (by omega)).trans h.k, setRow_heap _ _ _ _ _ _ h.k2, by rw [setRow_size]; exact h.l, below_setRowK h.b (by omega) _⟩
theorem oeq_zero : oeq 0 0 = true := by decide
theorem alike_bits (x y : Val) : ((x.vn == y.vn) && eqW (nulN x) (nulN y)) = bitsV x y := by
  unfold eqW nulN bitsV alikeV
  dsimp only
  rw [oeq_zero]
  cases (x.vn == y.vn) <;> cases (x.vk == y.vk) <;> cases (x.vb == y.vb) <;> simp
set_option maxRecDepth 100000 in
set_option maxHeartbeats 2000000 in
theorem galike_walk (x y : Val) (w : World) (N E : Bool) (hN : ((x.vn : Int) == (y.vn : Int)) = N) (hE : Hid (eqW (nulN x) (nulN y) = E)) :
    Calls Try.prog 35 #[.agg (celV x), .agg (celV y)] w fun e w' => e = .returned (.bool (N && E)) ∧ Below w.heap.size w w' := by
  have h1 := fun W => f64bits_run x.vn W
  have h2 := fun W => f64bits_run y.vn W
  go_enter Try.func35, Try.ntmps35
  go_upto_region 1 with fail
  obtain ⟨W1, hW1⟩ : ∃ W1, w.alloc (.cells (celV x) 24) = W1 := ⟨_, rfl⟩
  rw [hW1]
  obtain ⟨W2, hW2⟩ : ∃ W2, W1.alloc (.cells (celV y) 24) = W2 := ⟨_, rfl⟩
  have HS := Lib.hid (T2.new hW1 hW2)
  rw [hW2]
  clear hW1 hW2
  refine wp_region_held_drew (S := fun wx => T2 w wx x y) (by kernel_rfl) (HS.out.drew) (fun hHeld => ?_)
  refine take_s (i := 0) rfl (by kernel_rfl) (by kernel_rfl) (by kernel_rfl) (fun _ _ _ h => h) (Or.inl ⟨by rfl, by (intro w hSw; go_simp; try with_reducible rfl)⟩) rfl (by assumption) ?_; simp only [lset]
  refine take_s (i := 1) rfl (by kernel_rfl) (by kernel_rfl) (by kernel_rfl) (fun _ _ _ h => h) (Or.inl ⟨by rfl, by (intro w hS; have c := hS.cs.2.2.1; go_simp; try with_reducible rfl)⟩) rfl (by assumption) ?_; simp only [lset]
  refine take_s (i := 2) rfl (by kernel_rfl) (by kernel_rfl) (by kernel_rfl) (fun _ _ _ h => h) (Or.inl ⟨by rfl, by (intro w hSw; go_simp; try with_reducible rfl)⟩) rfl (by assumption) ?_; simp only [lset]
  refine take_s (i := 3) rfl (by kernel_rfl) (by kernel_rfl) (by kernel_rfl) (fun _ _ _ h => h) (Or.inl ⟨by rfl, by (intro w hSw; go_simp; try with_reducible rfl)⟩) rfl (by assumption) ?_; simp only [lset]
  refine take_s (i := 4) rfl (by kernel_rfl) (by kernel_rfl) (by kernel_rfl) (fun _ _ _ h => h) (Or.inl ⟨by rfl, by (intro w hS; have c := hS.cs.2.2.2.2.2.2.2.1; go_simp; try with_reducible rfl)⟩) rfl (by assumption) ?_; simp only [lset]
  refine take_s (i := 5) rfl (by kernel_rfl) (by kernel_rfl) (by kernel_rfl) (fun _ _ _ h => h) (Or.inl ⟨by rfl, by (intro w hSw; go_simp; try with_reducible rfl)⟩) rfl (by assumption) ?_; simp only [lset]
  refine take_s (i := 6) rfl (by kernel_rfl) (by kernel_rfl) (by kernel_rfl) (fun _ _ _ h => h) (Or.inl ⟨by rfl, by (intro w hSw; go_simp; try with_reducible rfl)⟩) rfl (by assumption) ?_; simp only [lset]
  refine take_s (i := 7) rfl (by kernel_rfl) (by kernel_rfl) (by kernel_rfl) (fun _ _ _ h => h) (Or.inl ⟨by rfl, by (intro w hSw; go_simp; try with_reducible rfl)⟩) rfl (by assumption) ?_; simp only [lset]
  refine wpAnyH_done (by kernel_rfl) ?_ _
  clear HS h1 h2
  have HS := Lib.hid hHeld
  clear hHeld
  have H1 := Lib.hid HS.out.nul1
  have H2 := Lib.hid H1.out.nul2
  have hE1 := hE.out
  clear hE
  cases N
  · go_wp2_with (first | (refine stN HS.out.k rfl rfl rfl rfl ?_) | (refine stN H1.out.k2 rfl rfl rfl rfl ?_))
    go_ret
    exact ⟨rfl, H2.out.b⟩
  · go_wp2_with (first | (refine stN HS.out.k rfl rfl rfl rfl ?_) | (refine stN H1.out.k2 rfl rfl rfl rfl ?_) | (refine ldX (k := 19) H2.out.k rfl (by kernel_rfl) rfl rfl ?_) | (refine ldX (k := 20) H2.out.k2 rfl (by kernel_rfl) rfl rfl ?_))
    go_ret
    exact ⟨rfl, H2.out.b⟩
theorem galike_any (x y : Val) (w : World) : Calls Try.prog 35 #[valV x, valV y] w fun e w' => e = .returned (.bool (bitsV x y)) ∧ Below w.heap.size w w' := by
  have h := galike_walk x y w _ _ rfl (Lib.hid rfl)
  rw [bits_nat, alike_bits] at h
  exact h
def noVP (p : Prp) : Prp := { p with pv := zVal, pg := zVal, pt := zVal }
set_option maxRecDepth 100000 in
set_option maxHeartbeats 2000000 in
theorem gwithoutValues_any (p : Prp) (w : World) : Calls Try.prog 36 #[.agg (celP p)] w fun e w' => e = .returned (.agg (celP (noVP p))) ∧ Below w.heap.size w w' := by
  go_enter Try.func36, Try.ntmps36
  go_upto_region 1 with fail
  rw [celP_zero]
  obtain ⟨W1, hW1⟩ : ∃ W1, w.alloc (.cells (celP p) 26) = W1 := ⟨_, rfl⟩
  rw [hW1]
  obtain ⟨W2, hW2⟩ : ∃ W2, W1.alloc (.cells (celP zPrp) 26) = W2 := ⟨_, rfl⟩
  have HS := Lib.hid (S2.new hW1 hW2)
  have H1 := Lib.hid (HS.out.row1 { p with pv := zVal })
  have H2 := Lib.hid (H1.out.row1 { p with pv := zVal, pg := zVal })
  have H3 := Lib.hid (H2.out.row1 (noVP p))
  have H4 := Lib.hid (H3.out.row2 (noVP p))
  rw [hW2]
  clear hW1 hW2
  go_wp2_with (first | (refine stV 1 zVal { p with pv := zVal } HS.out.k rfl rfl rfl rfl rfl (by omega) rfl ?_) | (refine stV 6 zVal { p with pv := zVal, pg := zVal } H1.out.k rfl rfl rfl rfl rfl (by omega) rfl ?_) | (refine stV 11 zVal (noVP p) H2.out.k rfl rfl rfl rfl rfl (by omega) rfl ?_) | (refine ldP (k := 9) H3.out.k rfl (by kernel_rfl) rfl rfl ?_) | (refine stP (p := noVP p) H3.out.k2 rfl rfl rfl rfl rfl ?_))
  refine prR H4.out.k2 rfl rfl rfl ⟨rfl, H4.out.b⟩
/-- The blocks of stays. -/
structure S4 (w W : World) (q : Prp) (x y : Val) : Prop where
  k : Blk W w.heap.size q
  k2 : BlkV W (w.heap.size + 1) x
  k3 : BlkV W (w.heap.size + 2) y
  l : w.heap.size + 2 < W.heap.size
  b : Below w.heap.size w W
theorem S4.new {w W1 W2 W3 : World} {q : Prp} {x y : Val} (h : w.alloc (.cells (celP q) 26) = W1) (g : W1.alloc (.cells (celV x) 24) = W2) (f : W2.alloc (.cells (celV y) 24) = W3) : S4 w W3 q x y := by
  obtain ⟨a, b, c⟩ := blk_new h
  obtain ⟨a2, b2, c2⟩ := blkV_new g
  obtain ⟨a3, b3, c3⟩ := blkV_new f
  rw [c2, c] at a3
  rw [c] at a2
  exact ⟨(a.below b2 (by omega)).below b3 (by omega), a2.below b3 (by omega), a3, by omega, below_le (below_le b b2) b3⟩
theorem S4.step {w W W' : World} {q : Prp} {x y : Val} (h : S4 w W q x y) (hb : Below W.heap.size W W') : S4 w W' q x y :=
  ⟨h.k.below hb (by have := h.l; omega), h.k2.below hb (by have := h.l; omega), h.k3.below hb h.l, Nat.lt_of_lt_of_le h.l hb.size, below_le h.b hb⟩
set_option maxRecDepth 100000 in
set_option maxHeartbeats 2000000 in
theorem gstays_any (q : Prp) (m : Int) (x y : Val) (w : World) (mx : mayB x = true) (my : mayB y = true) (nx : x.vn < 18446744073709551616) (ny : y.vn < 18446744073709551616) :
    Calls Try.prog 42 #[prpV q, .int .i64 m, valV x, valV y] w fun e w' => e = .returned (.bool (!hasB q.ph m || sameW x y)) ∧ Below w.heap.size w w' := by
  have CH := fun W => ghas_any q m W
  have CE := fun W => eSame_any mx my nx ny W
  obtain ⟨h, e_h⟩ : ∃ b, hasB q.ph m = b := ⟨_, rfl⟩
  obtain ⟨s, e_s⟩ : ∃ b, sameW x y = b := ⟨_, rfl⟩
  rw [e_h] at CH ⊢
  rw [e_s] at CE ⊢
  clear e_h e_s mx my nx ny
  have e0 := show prpV q = .agg (celP q) from rfl
  have e1 := show valV x = .agg (celV x) from rfl
  have e2 := show valV y = .agg (celV y) from rfl
  rw [e0] at CH ⊢
  rw [e1, e2] at CE ⊢
  clear e0 e1 e2
  have CH := Lib.hid CH
  have CE := Lib.hid CE
  go_enter Try.func42, Try.ntmps42
  go_upto_region 1 with fail
  obtain ⟨W1, hW1⟩ : ∃ W1, w.alloc (.cells (celP q) 26) = W1 := ⟨_, rfl⟩
  rw [hW1]
  obtain ⟨W2, hW2⟩ : ∃ W2, W1.alloc (.cells (celV x) 24) = W2 := ⟨_, rfl⟩
  rw [hW2]
  obtain ⟨W3, hW3⟩ : ∃ W3, W2.alloc (.cells (celV y) 24) = W3 := ⟨_, rfl⟩
  have HS := Lib.hid (S4.new hW1 hW2 hW3)
  rw [hW3]
  clear hW1 hW2 hW3
  cases h
  · go_wp2_with (refine ldP (k := 9) HS.out.k rfl (by kernel_rfl) rfl rfl ?_)
    with_reducible refine (CH.out _).mono ?_
    rintro e w2 ⟨rfl, b2⟩
    have HT := Lib.hid (HS.out.step b2)
    clear HS b2
    go_wp2
    go_ret
    exact ⟨rfl, HT.out.b⟩
  · go_wp2_with (refine ldP (k := 9) HS.out.k rfl (by kernel_rfl) rfl rfl ?_)
    with_reducible refine (CH.out _).mono ?_
    rintro e w2 ⟨rfl, b2⟩
    have HT := Lib.hid (HS.out.step b2)
    clear HS b2
    go_wp2_with (first | (refine ldX (k := 14) HT.out.k2 rfl (by kernel_rfl) rfl rfl ?_) | (refine ldX (k := 15) HT.out.k3 rfl (by kernel_rfl) rfl rfl ?_))
    with_reducible refine (CE.out _).mono ?_
    rintro e w3 ⟨rfl, b3⟩
    have HS := Lib.hid (HT.out.step b3)
    clear HT b3
    go_wp2
    go_ret
    exact ⟨rfl, HS.out.b⟩
end Go.Proofs.Ytlkgijinckhkkaa
