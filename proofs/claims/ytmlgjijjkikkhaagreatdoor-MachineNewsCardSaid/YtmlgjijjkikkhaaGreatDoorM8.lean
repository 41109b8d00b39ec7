/-
  The law of which limits and draws a machine can be made with.
-/
import Derived.Test.YtmlgjijjkikkhaaGreatDoorM6
import Derived.Test.YtmlgjijjkikkhaaGreatDoorM7b
namespace Go.Proofs.YtmlgjijjkikkhaaGreatDoor
open Go.RowKit
attribute [local go_sem] stF neqM eqS eqF
set_option maxRecDepth 100000 in
set_option maxHeartbeats 1000000 in
theorem limits_m {w : World} {m : Nat} {x : Mx} (h : Mc w m x) : Calls Tryz.prog 11 #[.pointer (some ⟨m, 0, none⟩)] w fun e w' => e = .returned (.agg (celL x.l0 x.l1 x.l2 x.l3)) ∧ Below w.heap.size w w' := by
  have h1 := h.on (below_a1 w (.cells (celL 0 0 0 0) 23))
  have b1 := below_a1 w (.cells (celL 0 0 0 0) 23)
  have n1 := new1 w (celL 0 0 0 0) 23
  go_enter Tryz.func11, Tryz.ntmps11
  go_upto_region 1 with fail
  obtain ⟨W1, hW1⟩ : ∃ W1, w.alloc (.cells (celL 0 0 0 0) 23) = W1 := ⟨_, rfl⟩
  rw [hW1] at h1 b1 n1 ⊢
  clear hW1 h
  have C1 := Lib.hid (there_m h1)
  have c2 : W1.cell? ⟨m, 2, none⟩ = some (.int .i64 x.l0) := h1.cell rfl
  have c3 : W1.cell? ⟨m, 3, none⟩ = some (.int .i64 x.l1) := h1.cell rfl
  have c4 : W1.cell? ⟨m, 4, none⟩ = some (.int .i64 x.l2) := h1.cell rfl
  have c5 : W1.cell? ⟨m, 5, none⟩ = some (.int .i64 x.l3) := h1.cell rfl
  clear h1
  go_wp2_with fail
  refine C1.out.mono ?_
  rintro e w' ⟨rfl, rfl⟩
  clear C1
  go_wp2_with (refine wpList_store_row rfl 23 _ _ rfl w.heap.size _ rfl rfl 23 _ n1 (by kernel_rfl) rfl (by kernel_rfl) ?_)
  exact cR1 rfl rfl (run_loadVar_row _ w.heap.size 23 23 (celL x.l0 x.l1 x.l2 x.l3) (0, 0) _ (setRow_heap _ _ _ _ _ _ n1) Tryz.underlying23 rfl (by kernel_rfl)) rfl ⟨rfl, below_setRowK b1 (Nat.le_refl _) _⟩
set_option maxRecDepth 100000 in
set_option maxHeartbeats 1000000 in
theorem envs_m {w : World} {m : Nat} {x : Mx} (h : Mc w m x) (he : x.envs = .slice none 0 0) : Calls Tryz.prog 15 #[.pointer (some ⟨m, 0, none⟩)] w fun e w' => e = .returned (.int .i64 0) ∧ w = w' := by
  have c28 : w.cell? ⟨m, 28, none⟩ = some (.slice none 0 0) := he ▸ h.cell rfl
  have C1 := Lib.hid (there_m h)
  clear h
  go_enter Tryz.func15, Tryz.ntmps15
  go_wp2_with fail
  refine C1.out.mono ?_
  rintro e w' ⟨rfl, rfl⟩
  clear C1
  go_wp2
  go_ret
  exact ⟨rfl, rfl⟩
theorem left_0 {a b c d : Int} {hb m : Nat} {dr : Value} {W : World} (h : Mc W m (mx0 a b c d hb dr)) : Calls Tryz.prog 10 #[.pointer (some ⟨m, 0, none⟩)] W fun e w' => e = .returned (.int .i64 a) ∧ W = w' := left_m h
theorem over_0 {a b c d : Int} {hb m : Nat} {dr : Value} {W : World} (h : Mc W m (mx0 a b c d hb dr)) : Calls Tryz.prog 12 #[.pointer (some ⟨m, 0, none⟩)] W fun e w' => e = .returned (.bool false) ∧ W = w' := over_m h
theorem drawn_0 {a b c d : Int} {hb m : Nat} {dr : Value} {W : World} (h : Mc W m (mx0 a b c d hb dr)) : Calls Tryz.prog 13 #[.pointer (some ⟨m, 0, none⟩)] W fun e w' => e = .returned (.int .i64 0) ∧ W = w' := drawn_m h
theorem kn_0 {a b c d : Int} {hb m : Nat} {dr : Value} {W : World} (h : Mc W m (mx0 a b c d hb dr)) : Calls Tryz.prog 14 #[.pointer (some ⟨m, 0, none⟩), .int .i64 0] W fun e w' => e = .returned (.int .i64 (-1)) ∧ W = w' := known_0 h
theorem limits_0 {a b c d : Int} {hb m : Nat} {dr : Value} {W : World} (h : Mc W m (mx0 a b c d hb dr)) : Calls Tryz.prog 11 #[.pointer (some ⟨m, 0, none⟩)] W fun e w' => e = .returned (.agg (celL a b c d)) ∧ Below W.heap.size W w' := limits_m h
theorem rnew_no {a b c d : Int} {A : Option Addr} {n cp : Nat} {l : List Nat} {w : World} (hn : l.length = n) (hm : n ≤ 17592186043904) (h : RF w w.heap.size A l) (hc0 : A = none → cp = 0) (hx : (limB a b c d && okDs l) = false) :
    Calls Tryz.prog 8 #[.agg (celL a b c d), .slice A n cp] w (NoM w) := by
  cases hl : limB a b c d with
  | false => exact rnew_lim hn hm h hl
  | true =>
    rw [hl] at hx
    exact (rnew_dr hn hm h hc0 hl).mono (fun e w' h => h.2 hx)
set_option maxRecDepth 100000 in
set_option maxHeartbeats 4000000 in
theorem news_go {a b c d : Int} {A : Option Addr} {n cp : Nat} {l : List Nat} {w : World} (hn : l.length = n) (hm : n ≤ 17592186043904) (h : RF w w.heap.size A l) (hc0 : A = none → cp = 0) :
    Calls Tryz.prog 3 #[.agg (celL a b c d), .slice A n cp] w fun e w' => e = .returned (.bool true) ∧ Below w.heap.size w w' := by
  have b1 := below_a1 w (.cells (celL a b c d) 23)
  have n1 := new1 w (celL a b c d) 23
  have HN := Lib.hid hn
  have HM := Lib.hid hm
  have HR := Lib.hid h
  have HCP := Lib.hid hc0
  clear hn hm h hc0
  go_enter Tryz.func3, Tryz.ntmps3
  go_upto_region 1 with fail
  obtain ⟨W1, hW1⟩ : ∃ W1, w.alloc (.cells (celL a b c d) 23) = W1 := ⟨_, rfl⟩
  rw [hW1] at b1 n1 ⊢
  clear hW1
  have B1 := Lib.hid b1
  have N1 := Lib.hid n1
  have HW := Lib.hid (show w.heap.size < W1.heap.size from (Array.getElem?_eq_some_iff.1 n1).1)
  clear b1 n1
  refine wp_region_held_drew (S := fun W => W.heap[w.heap.size]? = some (.cells (celL a b c d) 23 (0, 0))) (by kernel_rfl) N1.out (fun hHeld => ?_)
  refine take_s (v := .agg (celL a b c d)) (i := 0) rfl (by kernel_rfl) (by kernel_rfl) (by kernel_rfl) (fun _ _ _ h => h) (Or.inl ⟨by rfl, by (intro w' hSw; exact ldRow_run (run_loadVar_row w' w.heap.size 23 23 (celL a b c d) (0, 0) _ hSw Tryz.underlying23 rfl (by kernel_rfl)) rfl rfl)⟩) rfl (by assumption) ?_; simp only [lset]
  refine take_s (i := 2) rfl (by kernel_rfl) (by kernel_rfl) (by kernel_rfl) (fun _ _ _ h => h) (Or.inl ⟨by rfl, by (intro w' hSw; go_simp; try with_reducible rfl)⟩) rfl (by assumption) ?_; simp only [lset]
  refine call_s (i := 1) (by kernel_rfl) rfl rfl (by rfl) (fun K hK => ?_)
  go_simp
  have hHeld2 : (W1.drew.alloc (.cells #[] 41)).heap[w.heap.size]? = some (.cells (celL a b c d) 23 (0, 0)) := ((below_a1 W1.drew _).block _ HW.out).trans N1.out
  have B3 := Lib.hid (B1.out.drew.trans ((below_a1 W1.drew (.cells #[] 41)).mono (show w.heap.size ≤ W1.heap.size from Nat.le_of_lt HW.out)))
  have hown : (W1.drew.alloc (.cells #[] 41)).ownsRow W1.heap.size 41 1 (.slice (some ⟨W1.heap.size, 0, none⟩) 0 0) 0 [] := ⟨rfl, .inr ⟨W1.heap.size, 0, #[], rfl, Nat.le_refl _, heap_alloc_last W1.drew _, Nat.le_refl _, Nat.zero_le _, rfl, rfl⟩⟩
  refine hK.out _ (W1.drew.alloc (.cells #[] 41)) hHeld2 ?_; clear hK K hHeld; simp only [lset]
  have hHeld := hHeld2
  clear hHeld2
  obtain ⟨W3, hW3⟩ : ∃ W3, W1.drew.alloc (.cells #[] 41) = W3 := ⟨_, rfl⟩
  have hs3 : W1.heap.size ≤ W3.heap.size := by rw [← hW3]; exact (below_a1 W1.drew (.cells #[] 41)).size
  rw [hW3] at hHeld B3 hown ⊢
  clear hW3
  refine call_s (i := 3) (by kernel_rfl) rfl rfl (by rfl) (fun K hK => ?_)
  refine append_f HN.out HM.out ((HR.out.on B3.out).more (Nat.le_of_lt HW.out)) HCP.out hown (Nat.le_refl _) hs3 rfl rfl rfl ?_
  intro dB dq w4 b4 hR4
  have hHeld4 : w4.heap[w.heap.size]? = some (.cells (celL a b c d) 23 (0, 0)) := (b4.block _ HW.out).trans hHeld
  have B4 := Lib.hid (B3.out.trans (b4.mono (Nat.le_of_lt HW.out)))
  refine hK.out _ _ hHeld4 ?_; clear hK K hHeld b4 hown; simp only [lset]
  have hHeld := hHeld4
  clear hHeld4 B3 hs3 B1 N1 HW
  refine call_s (i := 4) (by kernel_rfl) rfl rfl (by rfl) (fun K hK => ?_)
  go_simp
  cases hok : (limB a b c d && okDs l) with
  | false =>
    refine (new_no_m rfl (by have := HN.out; have := HM.out; omega) hR4 hok).mono ?_
    rintro e w5 ⟨rfl, b5⟩
    have hHeld5 := (b5.block _ (Array.getElem?_eq_some_iff.1 hHeld).1).trans hHeld
    have B5 := Lib.hid (B4.out.trans (b5.mono B4.out.size))
    refine hK.out _ _ hHeld5 ?_; clear hK K hHeld b5; simp only [lset]
    have hHeld := hHeld5
    refine take_s (i := 5) rfl (by kernel_rfl) (by kernel_rfl) (by kernel_rfl) (fun _ _ _ h => h) (Or.inl ⟨by rfl, by (intro w' hSw; go_simp; try with_reducible rfl)⟩) rfl (by assumption) ?_; simp only [lset]
    refine take_s (i := 6) rfl (by kernel_rfl) (by kernel_rfl) (by kernel_rfl) (fun _ _ _ h => h) (Or.inl ⟨by rfl, by (intro w' hSw; go_simp; try with_reducible rfl)⟩) rfl (by assumption) ?_; simp only [lset]
    refine take_s (i := 7) rfl (by kernel_rfl) (by kernel_rfl) (by kernel_rfl) (fun _ _ _ h => h) (Or.inl ⟨by rfl, by (intro w' hSw; go_simp; try with_reducible rfl)⟩) rfl (by assumption) ?_; simp only [lset]
    refine take_s (i := 8) rfl (by kernel_rfl) (by kernel_rfl) (by kernel_rfl) (fun _ _ _ h => h) (Or.inl ⟨by rfl, by (intro w' hSw; go_simp; try with_reducible rfl)⟩) rfl (by assumption) ?_; simp only [lset]
    refine take_s (i := 9) rfl (by kernel_rfl) (by kernel_rfl) (by kernel_rfl) (fun _ _ _ h => h) (Or.inl ⟨by rfl, by (intro w' hSw; go_simp; try with_reducible rfl)⟩) rfl (by assumption) ?_; simp only [lset]
    refine wpAnyH_done (by kernel_rfl) ?_ _
    have N5 := Lib.hid hHeld5
    clear hHeld hHeld5
    have d0 : w5.cell? ⟨w.heap.size, 0, none⟩ = some (.int .i64 a) := (cell_of_row w5 _ 0 _ _ _ N5.out).trans rfl
    have d1 : w5.cell? ⟨w.heap.size, 1, none⟩ = some (.int .i64 b) := (cell_of_row w5 _ 1 _ _ _ N5.out).trans rfl
    have d2 : w5.cell? ⟨w.heap.size, 2, none⟩ = some (.int .i64 c) := (cell_of_row w5 _ 2 _ _ _ N5.out).trans rfl
    have d3 : w5.cell? ⟨w.heap.size, 3, none⟩ = some (.int .i64 d) := (cell_of_row w5 _ 3 _ _ _ N5.out).trans rfl
    have C2 := Lib.hid (rnew_no (a := a) (b := b) (c := c) (d := d) (w := w5) HN.out HM.out ((HR.out.on B5.out).more B5.out.size) HCP.out hok)
    clear hok HN HM HR HCP hR4 B4 N5
    go_wp2_with fail
    refine C2.out.mono ?_
    rintro e w6 ⟨rfl, b6⟩
    have B6 := Lib.hid (B5.out.trans (b6.mono B5.out.size))
    have C3 := Lib.hid (awake_any w6)
    clear C2 d0 d1 d2 d3 b6 B5
    go_wp2_with fail
    refine C3.out.mono ?_
    rintro e w7 ⟨rfl, b7⟩
    have B7 := Lib.hid (B6.out.trans (b7.mono B6.out.size))
    clear C3 b7 B6
    go_wp2
    go_ret
    exact ⟨rfl, B7.out⟩
  | true =>
    have hl : limB a b c d = true := by revert hok; cases limB a b c d <;> simp
    have hd : okDs l = true := by revert hok; cases okDs l <;> simp
    refine (new_m rfl (by have := HN.out; have := HM.out; omega) hR4 hl hd).mono ?_
    rintro e w5 ⟨⟨m, hb, dr, rfl, m5, -, hm5, hb5⟩, b5⟩
    have hHeld5 := (b5.block _ (Array.getElem?_eq_some_iff.1 hHeld).1).trans hHeld
    have B5 := Lib.hid (B4.out.trans (b5.mono B4.out.size))
    refine hK.out _ _ hHeld5 ?_; clear hK K hHeld b5; simp only [lset]
    have hHeld := hHeld5
    refine take_s (i := 5) rfl (by kernel_rfl) (by kernel_rfl) (by kernel_rfl) (fun _ _ _ h => h) (Or.inl ⟨by rfl, by (intro w' hSw; go_simp; try with_reducible rfl)⟩) rfl (by assumption) ?_; simp only [lset]
    refine take_s (i := 6) rfl (by kernel_rfl) (by kernel_rfl) (by kernel_rfl) (fun _ _ _ h => h) (Or.inl ⟨by rfl, by (intro w' hSw; go_simp; try with_reducible rfl)⟩) rfl (by assumption) ?_; simp only [lset]
    refine take_s (i := 7) rfl (by kernel_rfl) (by kernel_rfl) (by kernel_rfl) (fun _ _ _ h => h) (Or.inl ⟨by rfl, by (intro w' hSw; go_simp; try with_reducible rfl)⟩) rfl (by assumption) ?_; simp only [lset]
    refine take_s (i := 8) rfl (by kernel_rfl) (by kernel_rfl) (by kernel_rfl) (fun _ _ _ h => h) (Or.inl ⟨by rfl, by (intro w' hSw; go_simp; try with_reducible rfl)⟩) rfl (by assumption) ?_; simp only [lset]
    refine take_s (i := 9) rfl (by kernel_rfl) (by kernel_rfl) (by kernel_rfl) (fun _ _ _ h => h) (Or.inl ⟨by rfl, by (intro w' hSw; go_simp; try with_reducible rfl)⟩) rfl (by assumption) ?_; simp only [lset]
    refine wpAnyH_done (by kernel_rfl) ?_ _
    have N5 := Lib.hid hHeld5
    have M5 := Lib.hid m5
    clear hHeld hHeld5 m5 hm5 hb5
    have d0 : w5.cell? ⟨w.heap.size, 0, none⟩ = some (.int .i64 a) := (cell_of_row w5 _ 0 _ _ _ N5.out).trans rfl
    have d1 : w5.cell? ⟨w.heap.size, 1, none⟩ = some (.int .i64 b) := (cell_of_row w5 _ 1 _ _ _ N5.out).trans rfl
    have d2 : w5.cell? ⟨w.heap.size, 2, none⟩ = some (.int .i64 c) := (cell_of_row w5 _ 2 _ _ _ N5.out).trans rfl
    have d3 : w5.cell? ⟨w.heap.size, 3, none⟩ = some (.int .i64 d) := (cell_of_row w5 _ 3 _ _ _ N5.out).trans rfl
    have C2 := Lib.hid (show Calls Tryz.prog 8 #[.agg (celL a b c d), .slice A n cp] w5 (RNewM a w5) from (rnew_dr HN.out HM.out ((HR.out.on B5.out).more B5.out.size) HCP.out hl).mono (fun e w' h => h.1 hd))
    clear hok hl hd HN HM HR HCP hR4 B4
    go_wp2_with fail
    refine C2.out.mono ?_
    rintro e w6 ⟨⟨r, rfl, hr⟩, b6⟩
    have B6 := Lib.hid (B5.out.trans (b6.mono B5.out.size))
    have M6 := Lib.hid (M5.out.on b6)
    have N6 := Lib.hid ((b6.block _ (Array.getElem?_eq_some_iff.1 N5.out).1).trans N5.out)
    have R6 := Lib.hid hr
    clear C2 d0 d1 d2 d3 b6 B5 hr M5 N5
    go_upto_region 7 with fail
    refine wp_region_held_drew (S := fun W => Mc W m (mx0 a b c d hb dr) ∧ W.cell? ⟨r, 11, none⟩ = some (.int .i64 a) ∧ W.heap[w.heap.size]? = some (.cells (celL a b c d) 23 (0, 0))) (by kernel_rfl) ⟨M6.out, R6.out, N6.out⟩ (fun hHeld => ?_)
    clear M6 R6 N6
    refine take_s (i := 0) rfl (by kernel_rfl) (by kernel_rfl) (by kernel_rfl) (fun _ _ _ h => h) (Or.inl ⟨by rfl, by (intro w' hSw; go_simp; try with_reducible rfl)⟩) rfl (by assumption) ?_; simp only [lset]
    refine take_s (i := 2) rfl (by kernel_rfl) (by kernel_rfl) (by kernel_rfl) (fun _ _ _ h => h) (Or.inl ⟨by rfl, by (intro w' hSw; go_simp; try with_reducible rfl)⟩) rfl (by assumption) ?_; simp only [lset]
    refine take_s (i := 3) rfl (by kernel_rfl) (by kernel_rfl) (by kernel_rfl) (fun _ _ _ h => h) (Or.inl ⟨by rfl, by (intro w' hSw; go_simp; try with_reducible rfl)⟩) rfl (by assumption) ?_; simp only [lset]
    refine take_s (i := 4) rfl (by kernel_rfl) (by kernel_rfl) (by kernel_rfl) (fun _ _ _ h => h) (Or.inl ⟨by rfl, by (intro w' hSw; go_simp; try with_reducible rfl)⟩) rfl (by assumption) ?_; simp only [lset]
    refine take_s (v := .int .i64 a) (i := 5) rfl (by kernel_rfl) (by kernel_rfl) (by kernel_rfl) (fun _ _ _ h => h) (Or.inl ⟨by rfl, by (intro w' hSw; have c := hSw.2.1; go_simp)⟩) rfl (by assumption) ?_; simp only [lset]
    refine call_s (i := 1) (by kernel_rfl) rfl rfl (by rfl) (fun K hK => ?_)
    go_simp
    with_reducible refine (left_0 hHeld.1).mono ?_
    rintro e w' ⟨rfl, rfl⟩
    refine hK.out _ _ hHeld ?_; clear hK K; simp only [lset]
    refine take_s (v := .bool true) (i := 6) rfl (by kernel_rfl) (by kernel_rfl) (by kernel_rfl) (fun _ _ _ h => h) (Or.inl ⟨by rfl, by (intro w' hSw; go_simp; try with_reducible rfl)⟩) rfl (by assumption) ?_; simp only [lset]
    refine take_s (i := 7) rfl (by kernel_rfl) (by kernel_rfl) (by kernel_rfl) (fun _ _ _ h => h) (Or.inl ⟨by rfl, by (intro w' hSw; go_simp; try with_reducible rfl)⟩) rfl (by assumption) ?_; simp only [lset]
    refine take_s (i := 8) rfl (by kernel_rfl) (by kernel_rfl) (by kernel_rfl) (fun _ _ _ h => h) (Or.inl ⟨by rfl, by (intro w' hSw; go_simp; try with_reducible rfl)⟩) rfl (by assumption) ?_; simp only [lset]
    refine take_s (v := .agg (celL a b c d)) (i := 10) rfl (by kernel_rfl) (by kernel_rfl) (by kernel_rfl) (fun _ _ _ h => h) (Or.inl ⟨by rfl, by (intro w' hSw; exact ldRow_run (run_loadVar_row w' w.heap.size 23 23 (celL a b c d) (0, 0) _ hSw.2.2 Tryz.underlying23 rfl (by kernel_rfl)) rfl rfl)⟩) rfl (by assumption) ?_; simp only [lset]
    have B6d := Lib.hid B6.out.drew
    clear B6
    refine call_s (i := 9) (by kernel_rfl) rfl rfl (by rfl) (fun K hK => ?_)
    go_simp
    with_reducible refine (limits_0 hHeld.1).mono ?_
    rintro e w7 ⟨rfl, b7⟩
    have hHeld7 : Mc w7 m (mx0 a b c d hb dr) ∧ w7.cell? ⟨r, 11, none⟩ = some (.int .i64 a) ∧ w7.heap[w.heap.size]? = some (.cells (celL a b c d) 23 (0, 0)) := ⟨hHeld.1.on b7, kept b7 _ _ hHeld.2.1, (b7.block _ (Array.getElem?_eq_some_iff.1 hHeld.2.2).1).trans hHeld.2.2⟩
    have B7 := Lib.hid (B6d.out.trans (b7.mono B6d.out.size))
    refine hK.out _ _ hHeld7 ?_; clear hK K hHeld b7; simp only [lset]
    have hHeld := hHeld7
    clear hHeld7
    refine take_s (v := .bool true) (i := 11) rfl (by kernel_rfl) (by kernel_rfl) (by kernel_rfl) (fun _ _ _ h => h) (Or.inl ⟨by rfl, by (intro w' hSw; go_simp; try with_reducible rfl)⟩) rfl (by assumption) ?_; simp only [lset]
    refine take_s (v := .bool true) (i := 12) rfl (by kernel_rfl) (by kernel_rfl) (by kernel_rfl) (fun _ _ _ h => h) (Or.inl ⟨by rfl, by (intro w' hSw; go_simp; try with_reducible rfl)⟩) rfl (by assumption) ?_; simp only [lset]
    refine take_s (i := 13) rfl (by kernel_rfl) (by kernel_rfl) (by kernel_rfl) (fun _ _ _ h => h) (Or.inl ⟨by rfl, by (intro w' hSw; go_simp; try with_reducible rfl)⟩) rfl (by assumption) ?_; simp only [lset]
    refine take_s (i := 14) rfl (by kernel_rfl) (by kernel_rfl) (by kernel_rfl) (fun _ _ _ h => h) (Or.inl ⟨by rfl, by (intro w' hSw; go_simp; try with_reducible rfl)⟩) rfl (by assumption) ?_; simp only [lset]
    refine call_s (i := 15) (by kernel_rfl) rfl rfl (by rfl) (fun K hK => ?_)
    go_simp
    with_reducible refine (over_0 hHeld.1).mono ?_
    rintro e w' ⟨rfl, rfl⟩
    refine hK.out _ _ hHeld ?_; clear hK K; simp only [lset]
    refine take_s (v := .bool true) (i := 16) rfl (by kernel_rfl) (by kernel_rfl) (by kernel_rfl) (fun _ _ _ h => h) (Or.inl ⟨by rfl, by (intro w' hSw; go_simp; try with_reducible rfl)⟩) rfl (by assumption) ?_; simp only [lset]
    refine take_s (v := .bool true) (i := 17) rfl (by kernel_rfl) (by kernel_rfl) (by kernel_rfl) (fun _ _ _ h => h) (Or.inl ⟨by rfl, by (intro w' hSw; go_simp; try with_reducible rfl)⟩) rfl (by assumption) ?_; simp only [lset]
    refine take_s (i := 18) rfl (by kernel_rfl) (by kernel_rfl) (by kernel_rfl) (fun _ _ _ h => h) (Or.inl ⟨by rfl, by (intro w' hSw; go_simp; try with_reducible rfl)⟩) rfl (by assumption) ?_; simp only [lset]
    refine take_s (i := 19) rfl (by kernel_rfl) (by kernel_rfl) (by kernel_rfl) (fun _ _ _ h => h) (Or.inl ⟨by rfl, by (intro w' hSw; go_simp; try with_reducible rfl)⟩) rfl (by assumption) ?_; simp only [lset]
    refine call_s (i := 20) (by kernel_rfl) rfl rfl (by rfl) (fun K hK => ?_)
    go_simp
    with_reducible refine (drawn_0 hHeld.1).mono ?_
    rintro e w' ⟨rfl, rfl⟩
    refine hK.out _ _ hHeld ?_; clear hK K; simp only [lset]
    refine take_s (v := .bool true) (i := 21) rfl (by kernel_rfl) (by kernel_rfl) (by kernel_rfl) (fun _ _ _ h => h) (Or.inl ⟨by rfl, by (intro w' hSw; go_simp; try with_reducible rfl)⟩) rfl (by assumption) ?_; simp only [lset]
    refine take_s (v := .bool true) (i := 22) rfl (by kernel_rfl) (by kernel_rfl) (by kernel_rfl) (fun _ _ _ h => h) (Or.inl ⟨by rfl, by (intro w' hSw; go_simp; try with_reducible rfl)⟩) rfl (by assumption) ?_; simp only [lset]
    refine take_s (i := 23) rfl (by kernel_rfl) (by kernel_rfl) (by kernel_rfl) (fun _ _ _ h => h) (Or.inl ⟨by rfl, by (intro w' hSw; go_simp; try with_reducible rfl)⟩) rfl (by assumption) ?_; simp only [lset]
    refine take_s (i := 24) rfl (by kernel_rfl) (by kernel_rfl) (by kernel_rfl) (fun _ _ _ h => h) (Or.inl ⟨by rfl, by (intro w' hSw; go_simp; try with_reducible rfl)⟩) rfl (by assumption) ?_; simp only [lset]
    refine call_s (i := 25) (by kernel_rfl) rfl rfl (by rfl) (fun K hK => ?_)
    go_simp
    with_reducible refine (kn_0 hHeld.1).mono ?_
    rintro e w' ⟨rfl, rfl⟩
    refine hK.out _ _ hHeld ?_; clear hK K; simp only [lset]
    refine take_s (v := .bool true) (i := 26) rfl (by kernel_rfl) (by kernel_rfl) (by kernel_rfl) (fun _ _ _ h => h) (Or.inl ⟨by rfl, by (intro w' hSw; go_simp; try with_reducible rfl)⟩) rfl (by assumption) ?_; simp only [lset]
    refine take_s (v := .bool true) (i := 27) rfl (by kernel_rfl) (by kernel_rfl) (by kernel_rfl) (fun _ _ _ h => h) (Or.inl ⟨by rfl, by (intro w' hSw; go_simp; try with_reducible rfl)⟩) rfl (by assumption) ?_; simp only [lset]
    refine take_s (i := 28) rfl (by kernel_rfl) (by kernel_rfl) (by kernel_rfl) (fun _ _ _ h => h) (Or.inl ⟨by rfl, by (intro w' hSw; go_simp; try with_reducible rfl)⟩) rfl (by assumption) ?_; simp only [lset]
    refine take_s (i := 29) rfl (by kernel_rfl) (by kernel_rfl) (by kernel_rfl) (fun _ _ _ h => h) (Or.inl ⟨by rfl, by (intro w' hSw; go_simp; try with_reducible rfl)⟩) rfl (by assumption) ?_; simp only [lset]
    refine call_s (i := 30) (by kernel_rfl) rfl rfl (by rfl) (fun K hK => ?_)
    go_simp
    with_reducible refine (known_neg hHeld.1).mono ?_
    rintro e w' ⟨rfl, rfl⟩
    refine hK.out _ _ hHeld ?_; clear hK K; simp only [lset]
    refine take_s (v := .bool true) (i := 31) rfl (by kernel_rfl) (by kernel_rfl) (by kernel_rfl) (fun _ _ _ h => h) (Or.inl ⟨by rfl, by (intro w' hSw; go_simp; try with_reducible rfl)⟩) rfl (by assumption) ?_; simp only [lset]
    refine take_s (v := .bool true) (i := 32) rfl (by kernel_rfl) (by kernel_rfl) (by kernel_rfl) (fun _ _ _ h => h) (Or.inl ⟨by rfl, by (intro w' hSw; go_simp; try with_reducible rfl)⟩) rfl (by assumption) ?_; simp only [lset]
    refine take_s (i := 33) rfl (by kernel_rfl) (by kernel_rfl) (by kernel_rfl) (fun _ _ _ h => h) (Or.inl ⟨by rfl, by (intro w' hSw; go_simp; try with_reducible rfl)⟩) rfl (by assumption) ?_; simp only [lset]
    refine take_s (i := 34) rfl (by kernel_rfl) (by kernel_rfl) (by kernel_rfl) (fun _ _ _ h => h) (Or.inl ⟨by rfl, by (intro w' hSw; go_simp; try with_reducible rfl)⟩) rfl (by assumption) ?_; simp only [lset]
    refine call_s (i := 35) (by kernel_rfl) rfl rfl (by rfl) (fun K hK => ?_)
    go_simp
    with_reducible refine (known_15 hHeld.1).mono ?_
    rintro e w' ⟨rfl, rfl⟩
    refine hK.out _ _ hHeld ?_; clear hK K; simp only [lset]
    refine take_s (v := .bool true) (i := 36) rfl (by kernel_rfl) (by kernel_rfl) (by kernel_rfl) (fun _ _ _ h => h) (Or.inl ⟨by rfl, by (intro w' hSw; go_simp; try with_reducible rfl)⟩) rfl (by assumption) ?_; simp only [lset]
    refine take_s (v := .bool true) (i := 37) rfl (by kernel_rfl) (by kernel_rfl) (by kernel_rfl) (fun _ _ _ h => h) (Or.inl ⟨by rfl, by (intro w' hSw; go_simp; try with_reducible rfl)⟩) rfl (by assumption) ?_; simp only [lset]
    refine take_s (i := 38) rfl (by kernel_rfl) (by kernel_rfl) (by kernel_rfl) (fun _ _ _ h => h) (Or.inl ⟨by rfl, by (intro w' hSw; go_simp; try with_reducible rfl)⟩) rfl (by assumption) ?_; simp only [lset]
    refine take_s (i := 39) rfl (by kernel_rfl) (by kernel_rfl) (by kernel_rfl) (fun _ _ _ h => h) (Or.inl ⟨by rfl, by (intro w' hSw; go_simp; try with_reducible rfl)⟩) rfl (by assumption) ?_; simp only [lset]
    refine call_s (i := 40) (by kernel_rfl) rfl rfl (by rfl) (fun K hK => ?_)
    go_simp
    with_reducible refine (envs_m hHeld.1 rfl).mono ?_
    rintro e w' ⟨rfl, rfl⟩
    refine hK.out _ _ hHeld ?_; clear hK K; simp only [lset]
    refine take_s (v := .bool true) (i := 41) rfl (by kernel_rfl) (by kernel_rfl) (by kernel_rfl) (fun _ _ _ h => h) (Or.inl ⟨by rfl, by (intro w' hSw; go_simp; try with_reducible rfl)⟩) rfl (by assumption) ?_; simp only [lset]
    refine take_s (v := .bool true) (i := 42) rfl (by kernel_rfl) (by kernel_rfl) (by kernel_rfl) (fun _ _ _ h => h) (Or.inl ⟨by rfl, by (intro w' hSw; go_simp; try with_reducible rfl)⟩) rfl (by assumption) ?_; simp only [lset]
    refine take_s (i := 43) rfl (by kernel_rfl) (by kernel_rfl) (by kernel_rfl) (fun _ _ _ h => h) (Or.inl ⟨by rfl, by (intro w' hSw; go_simp; try with_reducible rfl)⟩) rfl (by assumption) ?_; simp only [lset]
    refine call_s (i := 44) (by kernel_rfl) rfl rfl (by rfl) (fun K hK => ?_)
    go_simp
    with_reducible refine (awake_any _).mono ?_
    rintro e w8 ⟨rfl, b8⟩
    have hHeld8 : Mc w8 m (mx0 a b c d hb dr) ∧ w8.cell? ⟨r, 11, none⟩ = some (.int .i64 a) ∧ w8.heap[w.heap.size]? = some (.cells (celL a b c d) 23 (0, 0)) := ⟨hHeld.1.on b8, kept b8 _ _ hHeld.2.1, (b8.block _ (Array.getElem?_eq_some_iff.1 hHeld.2.2).1).trans hHeld.2.2⟩
    have B8 := Lib.hid (B7.out.trans (b8.mono B7.out.size))
    refine hK.out _ _ hHeld8 ?_; clear hK K hHeld b8; simp only [lset]
    have hHeld := hHeld8
    clear hHeld8
    refine take_s (i := 45) rfl (by kernel_rfl) (by kernel_rfl) (by kernel_rfl) (fun _ _ _ h => h) (Or.inl ⟨by rfl, by (intro w' hSw; go_simp; try with_reducible rfl)⟩) rfl (by assumption) ?_; simp only [lset]
    refine take_s (i := 46) rfl (by kernel_rfl) (by kernel_rfl) (by kernel_rfl) (fun _ _ _ h => h) (Or.inl ⟨by rfl, by (intro w' hSw; go_simp; try with_reducible rfl)⟩) rfl (by assumption) ?_; simp only [lset]
    refine wpAnyH_done (by kernel_rfl) ?_ _
    clear hHeld B7 B6d
    go_wp2
    go_ret
    exact ⟨rfl, B8.out⟩
end Go.Proofs.YtmlgjijjkikkhaaGreatDoor
