/-
  The laws of properties: awake, checks.
-/
import Derived.Test.YtlkgijinckhkkaaQ0
namespace Go.Proofs.Ytlkgijinckhkkaa
open Go.RowKit
attribute [local go_sem] stF
def oneV : Val := ⟨3, false, 4607182418800017408, ⟨#[]⟩, 0⟩
def twoV : Val := ⟨3, false, 4611686018427387904, ⟨#[]⟩, 0⟩
def oneP : Prp := ⟨57, oneV, zVal, zVal, true, true, false⟩
def twoP : Prp := ⟨1, twoV, zVal, zVal, false, false, false⟩
def endP : Prp := ⟨57, twoV, zVal, zVal, true, true, false⟩
theorem has1 : hasB 1 9 = true ∧ hasB 1 6 = false ∧ hasB 1 1 = true ∧ hasB 1 2 = false ∧ hasB 1 4 = false ∧ hasB 1 8 = false ∧ hasB 1 16 = false ∧ hasB 1 32 = false := by decide +kernel
theorem awake_chg : chgE oneP twoP = .returned (.tuple #[prpV endP, .bool true]) := by
  obtain ⟨t9, t6, t1, t2, t4, t8, t16, t32⟩ := has1
  have ho : okP oneP twoP = true := by decide +kernel
  have hk : kindP oneP twoP = oneP := by
    unfold kindP
    rw [show twoP.ph = 1 from rfl, show oneP.ph = 57 from rfl, t6, t9, has57.2.1]
    rfl
  unfold chgE
  rw [if_pos ho, chg_eq, hk, show twoP.ph = 1 from rfl, t1, t2, t4, t8, t16, t32]
  rfl
theorem awake_may : fullB oneP = true ∧ mayP twoP = true := by decide +kernel
theorem put_n (a : Act) (v : Value) : a.put none v = a := rfl
/-- The blocks of awake's two values. -/
structure SA (w W : World) : Prop where
  k : BlkV W w.heap.size oneV
  k2 : BlkV W (w.heap.size + 1) twoV
  l : w.heap.size + 1 < W.heap.size
  b : Below w.heap.size w W
theorem SA.step {w W W' : World} (h : SA w W) (hb : Below W.heap.size W W') : SA w W' := ⟨h.k.below hb (by have := h.l; omega), h.k2.below hb h.l, Nat.lt_of_lt_of_le h.l hb.size, below_le h.b hb⟩
theorem SA.drew {w W : World} (h : SA w W) : SA w W.drew := ⟨h.k, h.k2, h.l, below_drewN' h.b 1⟩
theorem SA.new {w W1 W2 : World} (h : w.alloc (.cells (celV oneV) 24) = W1) (g : W1.alloc (.cells (celV twoV) 24) = W2) : SA w W2 := by
  have a := T2.new h g
  exact ⟨a.k, a.k2, a.l, a.b⟩
/-- The block of the answer, above them. -/
structure SX (w W : World) (X : Nat) (p : Prp) : Prop where
  s : SA w W
  k : Blk W X p
  lx : w.heap.size + 1 < X
  l : X < W.heap.size
theorem SX.step {w W W' : World} {X : Nat} {p : Prp} (h : SX w W X p) (hb : Below W.heap.size W W') : SX w W' X p := ⟨h.s.step hb, h.k.below hb h.l, h.lx, Nat.lt_of_lt_of_le h.l hb.size⟩
theorem SX.new {w W W' : World} (h : SA w W) (g : W.alloc (.cells (celP zPrp) 26) = W') : SX w W' W.heap.size zPrp := by
  obtain ⟨a, b, c⟩ := blk_new g
  exact ⟨h.step b, a, h.l, by omega⟩
theorem SX.row {w W : World} {X : Nat} {p : Prp} (h : SX w W X p) (q : Prp) : SX w (W.setRow X (celP q)) X q := by
  have hl := h.lx
  exact ⟨⟨(setRow_other _ _ _ _ (by omega)).trans h.s.k, (setRow_other _ _ _ _ (by omega)).trans h.s.k2, by rw [setRow_size]; exact h.s.l, below_setRowK h.s.b (by omega) _⟩, setRow_heap _ _ _ _ _ _ h.k, h.lx, by rw [setRow_size]; exact h.l⟩
theorem many_s {P : Program} {md : Region.Mode} {ops : Array Oper} {Q : Exit → Act → World → Prop} {S : World → Prop} {i k fuel : Nat} {oi : Oper} {listed : Array Bool} {l : List Value} {d : List Deferred} {w : World} {rs : List Nat}
    (hi : ops[i]? = some oi) (hd : oi.dst = some k) (hw : Region.wanted oi (yielded ops l.toArray) = true)
    (h : ∀ K : Act → World → Prop, Hid (∀ v w', S w' → wpAnyH P md ops Q S fuel (listed.setIfInBounds i true) { tmps := (lset l k v).toArray, defers := d } w' → K (Act.put { tmps := l.toArray, defers := d } oi.dst v) w') → Oper.wp P oi { tmps := l.toArray, defers := d } w K Q)
    (hs : AllReadyH P md ops Q S fuel listed { tmps := l.toArray, defers := d } w rs) : AllReadyH P md ops Q S fuel listed { tmps := l.toArray, defers := d } w (i :: rs) :=
  AllReadyH.cons hi (fun K hK => by
    rw [if_pos hw]
    refine h K (Lib.hid fun v w' hS hW => hK.out _ _ hS (fun _ => ?_))
    rw [hd, put_l]
    exact hW) hs
theorem many_n {P : Program} {md : Region.Mode} {ops : Array Oper} {Q : Exit → Act → World → Prop} {S : World → Prop} {i fuel : Nat} {oi : Oper} {listed : Array Bool} {l : List Value} {d : List Deferred} {w : World} {rs : List Nat}
    (hi : ops[i]? = some oi) (hd : oi.dst = none) (hw : Region.wanted oi (yielded ops l.toArray) = true)
    (h : ∀ K : Act → World → Prop, Hid (∀ w', S w' → wpAnyH P md ops Q S fuel (listed.setIfInBounds i true) { tmps := l.toArray, defers := d } w' → K (Act.put { tmps := l.toArray, defers := d } oi.dst undef) w') → Oper.wp P oi { tmps := l.toArray, defers := d } w K Q)
    (hs : AllReadyH P md ops Q S fuel listed { tmps := l.toArray, defers := d } w rs) : AllReadyH P md ops Q S fuel listed { tmps := l.toArray, defers := d } w (i :: rs) :=
  AllReadyH.cons hi (fun K hK => by
    rw [if_pos hw]
    refine h K (Lib.hid fun w' hS hW => hK.out _ _ hS (fun _ => ?_))
    rw [hd]
    exact hW) hs
set_option maxRecDepth 100000 in
set_option maxHeartbeats 2000000 in
theorem awake12_any (w : World) : Calls Try.prog 16 #[] w fun e w' => e = .returned (.bool true) ∧ Below w.heap.size w w' := by
  have CP := fun W => gPlain_any oneV true true false W
  have CC := fun W => gChange_any oneP twoP W awake_may.1 awake_may.2 ⟨by decide, by decide, by decide⟩ ⟨by decide, by decide, by decide⟩
  rw [awake_chg] at CC
  have e1 := show valV oneV = .agg (celV oneV) from rfl
  have e2 := show prpV ⟨57, oneV, zVal, zVal, true, true, false⟩ = .agg (celP oneP) from rfl
  have e3 := show prpV oneP = .agg (celP oneP) from rfl
  have e4 : prpV twoP = .agg #[.int .i64 1, .int .i64 3, .bool false, .float .f64 4611686018427387904, .string ⟨#[]⟩, .int .i64 0, .int .i64 0, .bool false, .float .f64 0, .string ⟨#[]⟩, .int .i64 0, .int .i64 0, .bool false, .float .f64 0, .string ⟨#[]⟩, .int .i64 0, .bool false, .bool false, .bool false] := rfl
  have e5 := show prpV endP = .agg (celP endP) from rfl
  rw [e1, e2] at CP
  rw [e3, e4, e5] at CC
  clear e1 e2 e3 e4 e5
  have CP := Lib.hid CP
  have CC := Lib.hid CC
  go_enter Try.func16, Try.ntmps16
  go_upto_region 2 with (refine vlS rfl rfl w.heap.size 3 false 4607182418800017408 ⟨#[]⟩ 0 rfl rfl (heap_alloc_last w _) ?_; rw [World.setRow_alloc_new])
  rw [show (#[.int .i64 3, .bool false, .float .f64 4607182418800017408, .string ⟨#[]⟩, .int .i64 0] : Array Value) = celV oneV from rfl]
  obtain ⟨W1, hW1⟩ : ∃ W1, w.alloc (.cells (celV oneV) 24) = W1 := ⟨_, rfl⟩
  have hsz : W1.heap.size = w.heap.size + 1 := (blkV_new hW1).2.2
  rw [hW1]
  (try simp only [put_n])
  go_upto_region 3 with (refine vlS rfl rfl W1.heap.size 3 false 4611686018427387904 ⟨#[]⟩ 0 rfl rfl (heap_alloc_last W1 _) ?_; rw [World.setRow_alloc_new])
  rw [show (#[.int .i64 3, .bool false, .float .f64 4611686018427387904, .string ⟨#[]⟩, .int .i64 0] : Array Value) = celV twoV from rfl]
  obtain ⟨W2, hW2⟩ : ∃ W2, W1.alloc (.cells (celV twoV) 24) = W2 := ⟨_, rfl⟩
  have HS := Lib.hid (SA.new hW1 hW2)
  rw [hW2]
  clear hW1 hW2 hsz
  (try simp only [put_n])
  refine wp_region_held_drew (S := fun wx => SA w wx) (by kernel_rfl) (HS.out.drew) (fun hHeld => ?_)
  clear HS
  refine take_s (i := 0) rfl (by kernel_rfl) (by kernel_rfl) (by kernel_rfl) (fun _ _ _ h => h) (Or.inl ⟨by rfl, fun w hS => ldX_run hS.k rfl rfl⟩) rfl (by first | assumption | exact HX.out.s) ?_; simp only [lset]
  refine take_s (i := 2) rfl (by kernel_rfl) (by kernel_rfl) (by kernel_rfl) (fun _ _ _ h => h) (Or.inl ⟨by rfl, fun w hS => show (execOp _ _).run _ _ = .ok (.value (.agg #[.int .i64 3, .bool false, .float .f64 4611686018427387904, .string ⟨#[]⟩, .int .i64 0])) _ from ldX_run hS.k2 rfl rfl⟩) rfl (by first | assumption | exact HX.out.s) ?_; simp only [lset]
  refine take_s (i := 3) rfl (by kernel_rfl) (by kernel_rfl) (by kernel_rfl) (fun _ _ _ h => h) (Or.inl ⟨by rfl, by (intro w hSw; go_simp; try with_reducible rfl)⟩) rfl (by first | assumption | exact HX.out.s) ?_; simp only [lset]
  refine wpAnyH_ready (rs := [1, 8]) (by kernel_rfl) (by simp) ?_
  refine many_s rfl rfl (by rfl) (fun K hK => ?_) (many_s rfl rfl (by rfl) (fun K hK => ?_) AllReadyH.nil)
  · skip
    go_simp
    with_reducible refine (CP.out _).mono ?_
    rintro e w2 ⟨rfl, b2⟩
    have hHe2 := hHeld.step b2
    clear hHeld b2
    have hHeld := hHe2; clear hHe2
    refine hK.out _ _ hHeld ?_; clear hK K
    simp only [lset]
    refine wpAnyH_ready (rs := [4, 8]) (by kernel_rfl) (by simp) ?_
    refine many_s rfl rfl (by rfl) (fun K hK => ?_) (many_s rfl rfl (by rfl) (fun K hK => ?_) AllReadyH.nil)
    · skip
      go_simp
      with_reducible refine (CC.out _).mono ?_
      rintro e w2 ⟨rfl, b2⟩
      have hHe2 := hHeld.step b2
      clear hHeld b2
      have hHeld := hHe2; clear hHe2
      refine hK.out _ _ hHeld ?_; clear hK K
      simp only [lset]
      refine take_s (i := 5) rfl (by kernel_rfl) (by kernel_rfl) (by kernel_rfl) (fun _ _ _ h => h) (Or.inl ⟨by rfl, by (intro w hSw; go_simp; try with_reducible rfl)⟩) rfl (by first | assumption | exact HX.out.s) ?_; simp only [lset]
      refine take_s (i := 6) rfl (by kernel_rfl) (by kernel_rfl) (by kernel_rfl) (fun _ _ _ h => h) (Or.inl ⟨by rfl, by (intro w hSw; go_simp; try with_reducible rfl)⟩) rfl (by first | assumption | exact HX.out.s) ?_; simp only [lset]
      refine take_s (i := 7) rfl (by kernel_rfl) (by kernel_rfl) (by kernel_rfl) (fun _ _ _ h => h) (Or.inl ⟨by rfl, by (intro w hSw; go_simp; try with_reducible rfl)⟩) rfl (by first | assumption | exact HX.out.s) ?_; simp only [lset]
      refine wpAnyH_ready (rs := [8]) (by kernel_rfl) (by simp) ?_
      refine many_s rfl rfl (by rfl) (fun K hK => ?_) (AllReadyH.nil)
      go_simp
      rw [celP_zero]
      obtain ⟨W5, hW5⟩ : ∃ W, (w2).alloc (.cells (celP zPrp) 26) = W := ⟨_, rfl⟩
      have HX := Lib.hid (SX.new hHeld hW5)
      rw [hW5]
      clear hW5 hHeld
      obtain ⟨X, hX⟩ : ∃ X, w2.heap.size = X := ⟨_, rfl⟩
      rw [show (w2).heap.size = X from hX] at HX
      (try rw [hX])
      clear hX
      refine hK.out _ _ HX.out.s ?_; clear hK K
      simp only [lset]
      refine wpAnyH_ready (rs := [9]) (by kernel_rfl) (by simp) ?_
      refine many_n rfl rfl (by rfl) (fun K hK => ?_) AllReadyH.nil
      refine wp_store_row 26 _ _ rfl X (celP endP) rfl rfl 26 (celP zPrp) HX.out.k (by kernel_rfl) rfl (by kernel_rfl) ?_
      have HT := HX; clear HX
      have HX := Lib.hid (HT.out.row endP)
      clear HT
      refine hK.out _ HX.out.s ?_; clear hK K
      refine take_s (i := 10) rfl (by kernel_rfl) (by kernel_rfl) (by kernel_rfl) (fun _ _ _ h => h) (Or.inl ⟨by rfl, by (intro w hSw; go_simp; try with_reducible rfl)⟩) rfl (by first | assumption | exact HX.out.s) ?_; simp only [lset]
      refine wpAnyH_done (by kernel_rfl) ?_ _
      obtain ⟨x2, x4, x6⟩ : _ ∧ _ ∧ _ := ⟨HX.out.k.cell (k := 3) (v := .float .f64 4611686018427387904) rfl, HX.out.k.cell (k := 16) (v := .bool true) rfl, HX.out.k.cell (k := 18) (v := .bool false) rfl⟩
      go_wp2
      go_ret
      exact ⟨rfl, HX.out.s.b⟩
    · skip
      go_simp
      rw [celP_zero]
      obtain ⟨W5, hW5⟩ : ∃ W, (w2).alloc (.cells (celP zPrp) 26) = W := ⟨_, rfl⟩
      have HX := Lib.hid (SX.new hHeld hW5)
      rw [hW5]
      clear hW5 hHeld
      obtain ⟨X, hX⟩ : ∃ X, w2.heap.size = X := ⟨_, rfl⟩
      rw [show (w2).heap.size = X from hX] at HX
      (try rw [hX])
      clear hX
      refine hK.out _ _ HX.out.s ?_; clear hK K
      simp only [lset]
      refine wpAnyH_ready (rs := [4]) (by kernel_rfl) (by simp) ?_
      refine many_s rfl rfl (by rfl) (fun K hK => ?_) (AllReadyH.nil)
      go_simp
      with_reducible refine (CC.out _).mono ?_
      rintro e w2 ⟨rfl, b2⟩
      have HT := HX; clear HX
      have HX := Lib.hid (HT.out.step b2)
      clear HT b2
      refine hK.out _ _ HX.out.s ?_; clear hK K
      simp only [lset]
      refine take_s (i := 5) rfl (by kernel_rfl) (by kernel_rfl) (by kernel_rfl) (fun _ _ _ h => h) (Or.inl ⟨by rfl, by (intro w hSw; go_simp; try with_reducible rfl)⟩) rfl (by first | assumption | exact HX.out.s) ?_; simp only [lset]
      refine take_s (i := 6) rfl (by kernel_rfl) (by kernel_rfl) (by kernel_rfl) (fun _ _ _ h => h) (Or.inl ⟨by rfl, by (intro w hSw; go_simp; try with_reducible rfl)⟩) rfl (by first | assumption | exact HX.out.s) ?_; simp only [lset]
      refine take_s (i := 7) rfl (by kernel_rfl) (by kernel_rfl) (by kernel_rfl) (fun _ _ _ h => h) (Or.inl ⟨by rfl, by (intro w hSw; go_simp; try with_reducible rfl)⟩) rfl (by first | assumption | exact HX.out.s) ?_; simp only [lset]
      refine wpAnyH_ready (rs := [9]) (by kernel_rfl) (by simp) ?_
      refine many_n rfl rfl (by rfl) (fun K hK => ?_) AllReadyH.nil
      refine wp_store_row 26 _ _ rfl X (celP endP) rfl rfl 26 (celP zPrp) HX.out.k (by kernel_rfl) rfl (by kernel_rfl) ?_
      have HT := HX; clear HX
      have HX := Lib.hid (HT.out.row endP)
      clear HT
      refine hK.out _ HX.out.s ?_; clear hK K
      refine take_s (i := 10) rfl (by kernel_rfl) (by kernel_rfl) (by kernel_rfl) (fun _ _ _ h => h) (Or.inl ⟨by rfl, by (intro w hSw; go_simp; try with_reducible rfl)⟩) rfl (by first | assumption | exact HX.out.s) ?_; simp only [lset]
      refine wpAnyH_done (by kernel_rfl) ?_ _
      obtain ⟨x2, x4, x6⟩ : _ ∧ _ ∧ _ := ⟨HX.out.k.cell (k := 3) (v := .float .f64 4611686018427387904) rfl, HX.out.k.cell (k := 16) (v := .bool true) rfl, HX.out.k.cell (k := 18) (v := .bool false) rfl⟩
      go_wp2
      go_ret
      exact ⟨rfl, HX.out.s.b⟩
  · skip
    go_simp
    rw [celP_zero]
    obtain ⟨W5, hW5⟩ : ∃ W, (W2.drew).alloc (.cells (celP zPrp) 26) = W := ⟨_, rfl⟩
    have HX := Lib.hid (SX.new hHeld hW5)
    rw [show (W2.alloc (.cells (celP zPrp) 26)).drew = W5 from hW5]
    clear hW5 hHeld
    obtain ⟨X, hX⟩ : ∃ X, W2.heap.size = X := ⟨_, rfl⟩
    rw [show (W2.drew).heap.size = X from hX] at HX
    (try rw [hX])
    clear hX
    refine hK.out _ _ HX.out.s ?_; clear hK K
    simp only [lset]
    refine wpAnyH_ready (rs := [1]) (by kernel_rfl) (by simp) ?_
    refine many_s rfl rfl (by rfl) (fun K hK => ?_) (AllReadyH.nil)
    go_simp
    with_reducible refine (CP.out _).mono ?_
    rintro e w2 ⟨rfl, b2⟩
    have HT := HX; clear HX
    have HX := Lib.hid (HT.out.step b2)
    clear HT b2
    refine hK.out _ _ HX.out.s ?_; clear hK K
    simp only [lset]
    refine wpAnyH_ready (rs := [4]) (by kernel_rfl) (by simp) ?_
    refine many_s rfl rfl (by rfl) (fun K hK => ?_) (AllReadyH.nil)
    go_simp
    with_reducible refine (CC.out _).mono ?_
    rintro e w2 ⟨rfl, b2⟩
    have HT := HX; clear HX
    have HX := Lib.hid (HT.out.step b2)
    clear HT b2
    refine hK.out _ _ HX.out.s ?_; clear hK K
    simp only [lset]
    refine take_s (i := 5) rfl (by kernel_rfl) (by kernel_rfl) (by kernel_rfl) (fun _ _ _ h => h) (Or.inl ⟨by rfl, by (intro w hSw; go_simp; try with_reducible rfl)⟩) rfl (by first | assumption | exact HX.out.s) ?_; simp only [lset]
    refine take_s (i := 6) rfl (by kernel_rfl) (by kernel_rfl) (by kernel_rfl) (fun _ _ _ h => h) (Or.inl ⟨by rfl, by (intro w hSw; go_simp; try with_reducible rfl)⟩) rfl (by first | assumption | exact HX.out.s) ?_; simp only [lset]
    refine take_s (i := 7) rfl (by kernel_rfl) (by kernel_rfl) (by kernel_rfl) (fun _ _ _ h => h) (Or.inl ⟨by rfl, by (intro w hSw; go_simp; try with_reducible rfl)⟩) rfl (by first | assumption | exact HX.out.s) ?_; simp only [lset]
    refine wpAnyH_ready (rs := [9]) (by kernel_rfl) (by simp) ?_
    refine many_n rfl rfl (by rfl) (fun K hK => ?_) AllReadyH.nil
    refine wp_store_row 26 _ _ rfl X (celP endP) rfl rfl 26 (celP zPrp) HX.out.k (by kernel_rfl) rfl (by kernel_rfl) ?_
    have HT := HX; clear HX
    have HX := Lib.hid (HT.out.row endP)
    clear HT
    refine hK.out _ HX.out.s ?_; clear hK K
    refine take_s (i := 10) rfl (by kernel_rfl) (by kernel_rfl) (by kernel_rfl) (fun _ _ _ h => h) (Or.inl ⟨by rfl, by (intro w hSw; go_simp; try with_reducible rfl)⟩) rfl (by first | assumption | exact HX.out.s) ?_; simp only [lset]
    refine wpAnyH_done (by kernel_rfl) ?_ _
    obtain ⟨x2, x4, x6⟩ : _ ∧ _ ∧ _ := ⟨HX.out.k.cell (k := 3) (v := .float .f64 4611686018427387904) rfl, HX.out.k.cell (k := 16) (v := .bool true) rfl, HX.out.k.cell (k := 18) (v := .bool false) rfl⟩
    go_wp2
    go_ret
    exact ⟨rfl, HX.out.s.b⟩
end Go.Proofs.Ytlkgijinckhkkaa
