/-
  New of the document, where limits may be.
-/
import Derived.Test.YtmlgjijjkikkhaaGreatDoorM7
import Derived.Great.BuildSlice
import Derived.Laws.OwnMore
namespace Go.Proofs.YtmlgjijjkikkhaaGreatDoor
open Go.RowKit
attribute [local go_sem] stF neqM eqS eqF
theorem info_int : (Tryz.prog.info? 3).map (fun i => (i.zero, i.size, i.bytes)) = some (some (.int .i64 0), 1, 8) := by kernel_rfl
/-- A copy of draws. -/
theorem append_f {A : Option Addr} {n cp : Nat} {l : List Nat} {W : World} {N base g : Nat} (hn : l.length = n) (hm : n ≤ 17592186043904) (h : RF W N A l) (hc0 : A = none → cp = 0) (hown : W.ownsRow base 41 1 (.slice (some ⟨g, 0, none⟩) 0 0) 0 []) (hN : N ≤ base) (hb : base ≤ W.heap.size) {s x : Operand} {o : Oper} {a0 : Act} {K : Act → World → Prop} {Q : Exit → Act → World → Prop}
    (ho : o.op = .call { callee := .builtin .append, args := #[s, x], argTypes := #[24, 24] }) (hs : a0.eval s = .slice (some ⟨g, 0, none⟩) 0 0) (hx : a0.eval x = .slice A n cp) (hK : ∀ B q w', Below N W w' → RF w' w'.heap.size B l → K (a0.put o.dst (.slice B l.length q)) w') : o.wp Tryz.prog a0 W K Q := by
  obtain ⟨i0, hi, hz0, hz1, hz2⟩ := info_parts infoF
  rcases A with _ | ad
  · obtain rfl := h.nilA
    obtain rfl := hc0 rfl
    subst hn
    have hrun := run_append_owned_none (P := Tryz.prog) (w := W) base 24 o.type 41 i0 1 Tryz.underlying24 hi _ 0 [] hown
    unfold Oper.wp
    simp [execOp, ho, resolve, invoke, builtin, hs, hx, hrun, Result.andThen]
    exact hK _ _ _ (Below.refl _ _) (RF.nil _ _ _)
  · have hcs : ∀ (j : Nat) u, (l.map fun u => Value.float .f64 u)[j]? = some u → W.cell? (ad.add j) = some u := by
      rcases Nat.eq_zero_or_pos l.length with h0 | h0
      · obtain rfl : l = [] := List.eq_nil_of_length_eq_zero h0
        intro j u hu
        simp at hu
      · obtain ⟨b, off, e, _, hc⟩ := h.2 h0
        cases e
        exact rf_news hc
    refine wp_append_own W s x 24 ho base 41 i0 (.float .f64 0) 1 8 Tryz.underlying24 hi hz0 hz1 hz2 rfl (by decide) _ 0 [] hs hown ad n cp (l.map fun u => Value.float .f64 u) hx (by simp; omega) hcs (rf_one l) (by unfold maxLen; omega) (by omega) hb ?_
    intro v' w4 hown4 hgrow4 _
    have hO : OwnFl base l v' w4 := by
      have := hown4
      simp only [Nat.zero_add, List.nil_append] at this
      rw [← hn] at this
      exact this
    obtain ⟨B4, q4, rfl, _, hR⟩ := hO.rf h.1
    exact hK _ _ _ ⟨hgrow4.os, hgrow4.tape, hgrow4.output, hgrow4.size, fun k hk => hgrow4.block k (by omega) (fun e => by have := (hown.lt k e.symm).1; omega)⟩ hR
def RPost (a : Int) (l : List Nat) (w : World) (e : Ending) (w' : World) : Prop := (okDs l = true → RNewM a w e w') ∧ (okDs l = false → NoM w e w')
set_option maxRecDepth 100000 in
set_option maxHeartbeats 4000000 in
theorem rnew_dr {a b c d : Int} {A : Option Addr} {n cp : Nat} {l : List Nat} {w : World} (hn : l.length = n) (hm : n ≤ 17592186043904) (h : RF w w.heap.size A l) (hc0 : A = none → cp = 0) (hl : limB a b c d = true) :
    Calls Tryz.prog 8 #[.agg (celL a b c d), .slice A n cp] w (RPost a l w) := by
  have b1 := below_a1 w (.cells (celL a b c d) 23)
  have n1 := new1 w (celL a b c d) 23
  have HN := Lib.hid hn
  have HM := Lib.hid hm
  have HR := Lib.hid h
  clear hn hm h
  simp only [limB, Bool.and_eq_true, decide_eq_true_eq] at hl
  obtain ⟨⟨⟨ha, hb0, hb1⟩, hc0', hc1⟩, hd0, hd1⟩ := hl
  have HB := Lib.hid (And.intro hb0 hb1)
  have HCP := Lib.hid hc0
  clear hc0
  go_enter Tryz.func8, Tryz.ntmps8
  go_upto_region 1 with fail
  obtain ⟨W1, hW1⟩ : ∃ W1, w.alloc (.cells (celL a b c d) 23) = W1 := ⟨_, rfl⟩
  rw [hW1] at b1 n1 ⊢
  clear hW1
  have d0 : W1.cell? ⟨w.heap.size, 0, none⟩ = some (.int .i64 a) := (cell_of_row W1 _ 0 _ _ _ n1).trans rfl
  have d1 : W1.cell? ⟨w.heap.size, 1, none⟩ = some (.int .i64 b) := (cell_of_row W1 _ 1 _ _ _ n1).trans rfl
  have d2 : W1.cell? ⟨w.heap.size, 2, none⟩ = some (.int .i64 c) := (cell_of_row W1 _ 2 _ _ _ n1).trans rfl
  have d3 : W1.cell? ⟨w.heap.size, 3, none⟩ = some (.int .i64 d) := (cell_of_row W1 _ 3 _ _ _ n1).trans rfl
  have B1 := Lib.hid b1
  have N1 := Lib.hid n1
  clear b1 n1
  go_upto_region 2 with fail
  clear d0 d1 d2 d3 ha hb0 hb1 hc0' hc1 hd0 hd1
  go_wp2_with fail
  go_loopw [6, 7] (fun v6 v7 wr => ∃ k : Nat, ∃ t : Bool, v6 = .bool t ∧ v7 = .int .i64 (k : Nat) ∧ Hid (k ≤ n) ∧ Hid (okDs (l.take k) = t) ∧ wr = W1) (fun _ v7 _ => ((n : Int) - intOf v7).toNat)
  case atStart => exact ⟨0, true, rfl, rfl, Lib.hid (Nat.zero_le _), Lib.hid rfl, rfl⟩
  case round =>
    obtain ⟨k, t, rfl, rfl, HK, HT, rfl⟩ := hrel
    by_cases hkn : k < n
    · have hm' := HM.out
      have t1 : decide ((k : Int) < (n : Int)) = true := decide_eq_true (by omega)
      have t2 : (k : Int) < (n : Int) := by omega
      have t3 : (0 : Int) ≤ (k : Int) := by omega
      have k1 : IntKind.i64.wrap ((k : Int) + 1) = ((k + 1 : Nat) : Int) := by rw [IntWalk.i64_in _ (by omega)]; omega
      obtain ⟨x, hx⟩ : ∃ x, l[k]? = some x := ⟨_, List.getElem?_eq_getElem (by have := HN.out; omega)⟩
      obtain ⟨g, off, rfl, hc⟩ := ((HR.out.on B1.out).more B1.out.size).get hx
      have hk' := ok_take hx
      rw [HT.out] at hk'
      have HKN := Lib.hid hkn
      clear hkn hm' hx HR HCP
      cases t with
      | false =>
        have HT1 := Lib.hid (show okDs (l.take (k + 1)) = false by rw [hk']; rfl)
        clear hk' HT
        go_wp2
        go_roundw
        case rel => exact ⟨k + 1, false, rfl, by go_num, Lib.hid (by have := HKN.out; omega), HT1, by trivial⟩
        case measure => have := HKN.out; simp [intOf]; omega
      | true =>
        unfold okD at hk'
        obtain ⟨p, hp⟩ : ∃ p, FloatKind.f64.format.order x 0 = p := ⟨_, rfl⟩
        obtain ⟨q, hq⟩ : ∃ q, FloatKind.f64.format.order x 4607182418800017408 = q := ⟨_, rfl⟩
        rw [hp, hq] at hk'
        obtain ⟨t', ht'⟩ : ∃ t', ((p == some Ordering.gt || p == some Ordering.eq) && q == some Ordering.lt) = t' := ⟨_, rfl⟩
        rw [ht', Bool.true_and] at hk'
        have HT1 := Lib.hid hk'
        clear hk' HT
        rcases p with _ | _ | _ | _ <;> rcases q with _ | _ | _ | _ <;> obtain rfl := ht'
        all_goals
          go_wp2
          go_roundw
          case rel => exact ⟨k + 1, _, rfl, by go_num, Lib.hid (by have := HKN.out; omega), HT1, by trivial⟩
          case measure => have := HKN.out; simp [intOf]; omega
    · have t1 : decide ((k : Int) < (n : Int)) = false := decide_eq_false (by omega)
      have t2 : ¬ ((k : Int) < (n : Int)) := by omega
      have hk : k = l.length := by have := HK.out; have := HN.out; omega
      have hT := HT.out
      rw [hk, List.take_length] at hT
      have HT := Lib.hid hT
      clear hkn hT
      cases t with
      | false =>
        go_wp2
        go_ret2
        exact ⟨fun h => absurd (HT.out.symm.trans h) (by decide), fun _ => ⟨rfl, B1.out⟩⟩
      | true =>
        have C1 := Lib.hid (fun W => rheap_new b W HB.out.1 HB.out.2)
        have d1 : wr.cell? ⟨w.heap.size, 1, none⟩ = some (.int .i64 b) := (cell_of_row wr _ 1 _ _ _ N1.out).trans rfl
        go_wp2_with fail
        refine (C1.out _).mono ?_
        rintro e w2 ⟨⟨hq, rfl⟩, b2⟩
        have HW := Lib.hid (show w.heap.size < wr.heap.size from (Array.getElem?_eq_some_iff.1 N1.out).1)
        have N2 := Lib.hid ((b2.block _ HW.out).trans N1.out)
        have B2 := Lib.hid (B1.out.trans (b2.mono B1.out.size))
        clear C1 b2 d1 B1 N1
        go_upto_region 9 with fail
        refine wp_region_held_drew (S := fun W => W.heap[w.heap.size]? = some (.cells (celL a b c d) 23 (0, 0))) (by kernel_rfl) N2.out (fun hHeld => ?_)
        refine take_s (v := .agg (celL a b c d)) (i := 0) rfl (by kernel_rfl) (by kernel_rfl) (by kernel_rfl) (fun _ _ _ h => h) (Or.inl ⟨by rfl, by (intro w' hSw; exact ldRow_run (run_loadVar_row w' w.heap.size 23 23 (celL a b c d) (0, 0) _ hSw Tryz.underlying23 rfl (by kernel_rfl)) rfl rfl)⟩) rfl (by assumption) ?_; simp only [lset]
        refine take_s (i := 1) rfl (by kernel_rfl) (by kernel_rfl) (by kernel_rfl) (fun _ _ _ h => h) (Or.inl ⟨by rfl, by (intro w' hSw; go_simp; try with_reducible rfl)⟩) rfl (by assumption) ?_; simp only [lset]
        refine take_s (i := 3) rfl (by kernel_rfl) (by kernel_rfl) (by kernel_rfl) (fun _ _ _ h => h) (Or.inl ⟨by rfl, by (intro w' hSw; go_simp; try with_reducible rfl)⟩) rfl (by assumption) ?_; simp only [lset]
        refine take_s (i := 5) rfl (by kernel_rfl) (by kernel_rfl) (by kernel_rfl) (fun _ _ _ h => h) (Or.inl ⟨by rfl, by (intro w' hSw; go_simp; try with_reducible rfl)⟩) rfl (by assumption) ?_; simp only [lset]
        refine take_s (v := .int .i64 a) (i := 6) rfl (by kernel_rfl) (by kernel_rfl) (by kernel_rfl) (fun _ _ _ h => h) (Or.inl ⟨by rfl, by (intro w' hSw; have c := (cell_of_row w' w.heap.size 0 _ _ _ hSw).trans (show (celL a b c d)[0]? = some (.int .i64 a) from rfl); go_simp)⟩) rfl (by assumption) ?_; simp only [lset]
        refine call_s (i := 2) (by kernel_rfl) rfl rfl (by rfl) (fun K hK => ?_)
        go_simp
        have hHeld2 : (w2.drew.alloc (.cells #[] 41)).heap[w.heap.size]? = some (.cells (celL a b c d) 23 (0, 0)) := ((below_a1 w2.drew _).block _ (show w.heap.size < w2.heap.size from (Array.getElem?_eq_some_iff.1 N2.out).1)).trans N2.out
        have B3 := Lib.hid (B2.out.drew.trans ((below_a1 w2.drew (.cells #[] 41)).mono (show w.heap.size ≤ w2.heap.size from B2.out.size)))
        have hown : (w2.drew.alloc (.cells #[] 41)).ownsRow w2.heap.size 41 1 (.slice (some ⟨w2.heap.size, 0, none⟩) 0 0) 0 [] := ⟨rfl, .inr ⟨w2.heap.size, 0, #[], rfl, Nat.le_refl _, heap_alloc_last w2.drew _, Nat.le_refl _, Nat.zero_le _, rfl, rfl⟩⟩
        refine hK.out _ (w2.drew.alloc (.cells #[] 41)) hHeld2 ?_; clear hK K hHeld; simp only [lset]
        have hHeld := hHeld2
        clear hHeld2
        obtain ⟨W3, hW3⟩ : ∃ W3, w2.drew.alloc (.cells #[] 41) = W3 := ⟨_, rfl⟩
        have hs3 : w2.heap.size ≤ W3.heap.size := by rw [← hW3]; exact (below_a1 w2.drew (.cells #[] 41)).size
        rw [hW3] at hHeld B3 hown ⊢
        clear hW3
        have HS3 := Lib.hid (And.intro hs3 B2.out.size)
        clear hs3
        obtain ⟨i0, hi, hz0, hz1, hz2⟩ := info_parts infoF
        refine call_s (i := 4) (by kernel_rfl) rfl rfl (by rfl) (fun K hK => ?_)
        refine append_f HN.out HM.out ((HR.out.on B3.out).more HS3.out.2) HCP.out hown (Nat.le_refl _) HS3.out.1 rfl rfl rfl ?_
        intro dB dq w4 b4 _
        have b4' : Below w.heap.size W3 w4 := b4.mono HS3.out.2
        have hHeld4 : w4.heap[w.heap.size]? = some (.cells (celL a b c d) 23 (0, 0)) := (b4.block _ (show w.heap.size < w2.heap.size from (Array.getElem?_eq_some_iff.1 N2.out).1)).trans hHeld
        have B4 := Lib.hid (B3.out.trans b4')
        refine hK.out _ _ hHeld4 ?_; clear hK K hHeld b4 b4' hown; simp only [lset]
        have hHeld := hHeld4
        clear hHeld4 B3 HS3 HR
        refine take_s (i := 7) rfl (by kernel_rfl) (by kernel_rfl) (by kernel_rfl) (fun _ _ _ h => h) (Or.inl ⟨by rfl, by (intro w' hSw; go_simp; try with_reducible rfl)⟩) rfl (by assumption) ?_; simp only [lset]
        refine call_s (i := 8) (by kernel_rfl) rfl rfl (by rfl) (fun K hK => ?_)
        go_simp
        have hHeld5 : (w4.alloc (.cells (celR a b c d (.pointer (some ⟨hq, 0, none⟩)) (.slice none 0 0) (.slice dB l.length dq)) 44)).heap[w.heap.size]? = some (.cells (celL a b c d) 23 (0, 0)) := ((below_a1 w4 _).block _ (Array.getElem?_eq_some_iff.1 hHeld).1).trans hHeld
        have B5 := Lib.hid (B4.out.trans ((below_a1 w4 (.cells (celR a b c d (.pointer (some ⟨hq, 0, none⟩)) (.slice none 0 0) (.slice dB l.length dq)) 44)).mono B4.out.size))
        have r5 := new1 w4 (celR a b c d (.pointer (some ⟨hq, 0, none⟩)) (.slice none 0 0) (.slice dB l.length dq)) 44
        have HW4 := Lib.hid B4.out.size
        refine hK.out _ (w4.alloc (.cells (celR a b c d (.pointer (some ⟨hq, 0, none⟩)) (.slice none 0 0) (.slice dB l.length dq)) 44)) hHeld5 ?_; clear hK K hHeld; simp only [lset]
        have hHeld := hHeld5
        refine take_s (i := 9) rfl (by kernel_rfl) (by kernel_rfl) (by kernel_rfl) (fun _ _ _ h => h) (Or.inl ⟨by rfl, by (intro w' hSw; go_simp; try with_reducible rfl)⟩) rfl (by assumption) ?_; simp only [lset]
        refine wpAnyH_done (by kernel_rfl) ?_ _
        clear hHeld hHeld5 B4
        obtain ⟨W5, hW5⟩ : ∃ W5, w4.alloc (.cells (celR a b c d (.pointer (some ⟨hq, 0, none⟩)) (.slice none 0 0) (.slice dB l.length dq)) 44) = W5 := ⟨_, rfl⟩
        obtain ⟨r, hr⟩ : ∃ r, w4.heap.size = r := ⟨_, rfl⟩
        rw [hW5, hr] at r5
        rw [hW5] at B5
        rw [hr] at HW4
        rw [hW5, hr]
        clear hW5 hr N2 B2 HW hi hz0 hz1 hz2 i0
        have R5 := Lib.hid r5
        clear r5
        obtain ⟨i0, hi, hz0, hz1, hz2⟩ := info_parts info_int
        go_wp2_with fail
        have HIO := Lib.hid (And.intro hi (And.intro hz0 (And.intro hz1 hz2)))
        clear hi hz0 hz1 hz2
        go_loopw [11] (fun v11 wz => ∃ k : Nat, ∃ v : Value, v11 = .int .i64 (k : Nat) ∧ Hid (k ≤ 15) ∧ Hid (wz.heap[r]? = some (.cells (celR a b c d (.pointer (some ⟨hq, 0, none⟩)) v (.slice dB l.length dq)) 44 (0, 0))) ∧ Hid (wz.ownsRow (r + 1) 3 1 v k (List.replicate k (.int .i64 (-1)))) ∧ Hid (Below w.heap.size w wz)) (fun v11 _ => (15 - intOf v11).toNat)
        case atStart => exact ⟨0, .slice none 0 0, rfl, Lib.hid (by omega), R5, Lib.hid ⟨rfl, .inl ⟨rfl, rfl⟩⟩, B5⟩
        case round =>
          obtain ⟨k, v, rfl, HK, HR, HO, HB⟩ := hrel
          by_cases hkn : k < 15
          · have t1 : decide ((k : Int) < 15) = true := decide_eq_true (by omega)
            have t2 : (k : Int) < 15 := by omega
            have k1 : IntKind.i64.wrap ((k : Int) + 1) = ((k + 1 : Nat) : Int) := by rw [IntWalk.i64_in _ (by omega)]; omega
            have c8 : wr.cell? ⟨r, 8, none⟩ = some v := (cell_of_row wr r 8 _ _ _ HR.out).trans rfl
            have hown := HO.out
            have hrl : r < wr.heap.size := (Array.getElem?_eq_some_iff.1 HR.out).1
            have hln : k + 1 ≤ maxLen := by unfold maxLen; omega
            have HKN := Lib.hid hkn
            have HRL := Lib.hid hrl
            have HLN := Lib.hid hln
            obtain ⟨hi, hz0, hz1, hz2⟩ := HIO.out
            clear hkn hrl hln R5 B5
            go_wp2_with (at_builtin; refine wpList_append_own _ rfl _ _ 37 rfl (r + 1) 3 i0 (.int .i64 0) 1 8 Tryz.underlying37 hi hz0 hz1 hz2 rfl (by decide) _ _ _ rfl (hown.alloc _) ⟨wr.heap.size, 0, none⟩ 1 1 [.int .i64 (-1)] rfl rfl (cell_one_new _ _ _) (by simp [Value.oneCell']) HLN.out (by have := HKN.out; omega) (by have := HRL.out; simp; omega) ?_; intro v' w6 hown6 hgrow6 hnil6; refine Hid.out ?_)
            have hne : some r ≠ v.ownBlock := fun e => by have := (hown.lt r e.symm).1; omega
            have r6 : w6.heap[r]? = some (.cells (celR a b c d (.pointer (some ⟨hq, 0, none⟩)) v (.slice dB l.length dq)) 44 (0, 0)) := (hgrow6.block r (by have := HRL.out; simp; omega) hne).trans (((below_a1 wr _).block r HRL.out).trans HR.out)
            have c8 : w6.cell? ⟨r, 8, none⟩ = some v := (cell_of_row w6 r 8 _ _ _ r6).trans rfl
            have f8 := frozen_of_row w6 r 8 _ _ r6
            have R7 := Lib.hid (show (w6.setCell ⟨r, 8, none⟩ v').heap[r]? = some (.cells (celR a b c d (.pointer (some ⟨hq, 0, none⟩)) v' (.slice dB l.length dq)) 44 (0, 0)) from (heap_setCell_same w6 r 8 _ 44 _ r6).trans rfl)
            have O7 := Lib.hid (show (w6.setCell ⟨r, 8, none⟩ v').ownsRow (r + 1) 3 1 v' (k + 1) (List.replicate (k + 1) (.int .i64 (-1))) from by
              rw [List.replicate_succ']
              exact hown6.kept (row := some r) ⟨rfl, rfl, rfl, by simp [World.setCell], fun j _ hj => Below.heap_setCell _ _ _ _ (fun e => hj (by simp [e]))⟩ (Or.inr (fun e => by have := (hown6.lt r e).1; omega)))
            have B7 := Lib.hid (show Below w.heap.size w (w6.setCell ⟨r, 8, none⟩ v') from HB.out.trans ((show Below w.heap.size wr w6 from ⟨hgrow6.os, hgrow6.tape, hgrow6.output, by have := hgrow6.size; simp at this; omega, fun j hj => (hgrow6.block j (by have := HRL.out; have := HW4.out; simp; omega) (fun e => by have := (hown.lt j e.symm).1; have := HW4.out; omega)).trans ((below_a1 wr _).block j (by have := HRL.out; have := HW4.out; omega))⟩).trans ((ey_set w6 r 8 v').below (by have := hgrow6.size; simp at this; have := HRL.out; have := HW4.out; omega) HW4.out)))
            obtain ⟨A6, k6, c6, rfl⟩ : ∃ A6 k6 c6, v' = .slice A6 k6 c6 := by
              rcases hown6.2 with ⟨e, _⟩ | ⟨g, cap, cur, e, _⟩ <;> exact ⟨_, _, _, e⟩
            clear hown hown6 hgrow6 hnil6 hne r6 HR HO HB
            refine Lib.hid ?_
            go_wp2
            go_roundw
            case rel => exact ⟨k + 1, _, by go_num, Lib.hid (by have := HKN.out; omega), R7, O7, B7⟩
            case measure => have := HKN.out; simp [intOf]; omega
          · have t1 : decide ((k : Int) < 15) = false := decide_eq_false (by omega)
            have t2 : ¬ ((k : Int) < 15) := by omega
            have c11 : wr.cell? ⟨r, 11, none⟩ = some (.int .i64 a) := (cell_of_row wr r 11 _ _ _ HR.out).trans rfl
            have HC := Lib.hid c11
            clear hkn c11
            go_wp2
            go_ret2
            exact ⟨fun _ => ⟨⟨r, rfl, HC.out⟩, HB.out⟩, fun h => absurd (HT.out.symm.trans h) (by decide)⟩
end Go.Proofs.YtmlgjijjkikkhaaGreatDoor
