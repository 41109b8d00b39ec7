/-
  An object without properties, kept.
-/
import Derived.Test.YtmlgjijjkikkhaaGreatDoorO5
namespace Go.Proofs.YtmlgjijjkikkhaaGreatDoor
open Go.RowKit
attribute [local go_sem] stF neqM eqS
theorem built_ho (x : Ob) (sP sB : Value) : Tryz.prog.built 136 [(0, .agg (celO x sP sB))] = some (celH x sP sB (.slice none 0 0) none) := by kernel_rfl
theorem bldH {ops : Array Oper} {rest : List Oper} {o : Oper} {a : Act} {w : World} {Q : Exit → Act → World → Prop} {y : Operand} {k : Nat} {x : Ob} {sP sB : Value} (hg : o.guard = none) (hd : o.dst = some k) (ho : o.op = .build 136 #[(0, y)]) (hx : a.eval y = .agg (celO x sP sB))
    (h : wpList Tryz.prog ops Q rest (a.put (some k) (.agg (celH x sP sB (.slice none 0 0) none))) w) : wpList Tryz.prog ops Q (o :: rest) a w := by
  have hb : Tryz.prog.built 136 ((#[(0, y)] : Array (Nat × Operand)).map fun (i, x) => (i, a.eval x)).toList = some (celH x sP sB (.slice none 0 0) none) := by
    simp only [List.map_toArray, List.map_cons, List.map_nil, hx]
    exact built_ho x sP sB
  refine wpList_build hg 136 _ ho (by rw [hb]; rfl) ?_
  rw [hb, hd]
  exact h
set_option maxRecDepth 100000 in
set_option maxHeartbeats 2000000 in
theorem keep_e {x : Ob} {ahead : Nat} {w : World} (c1 : 1 ≤ x.oc) (c2 : x.oc ≤ 10) (h3 : x.oc ≠ 3) (h4 : x.oc ≠ 4) (p1 : -1 ≤ x.op) (p2 : x.op < ahead) (n1 : 0 ≤ x.on) (n2 : 0 ≤ x.od) (n3 : 0 ≤ x.os) (hk : x.pr.vk = primK x.oc) (hm : mayB x.pr = true) (hs : x.pr.vs.size ≤ maxLen) :
    Calls Tryz.prog 60 #[.agg (celO x (.slice none 0 0) (.slice none 0 0)), .int .i64 ahead] w fun e w' => (∃ t, e = .returned (.tuple #[.pointer (some ⟨t, 0, none⟩), .bool true]) ∧ HobE w' t x (.slice none 0 0) (.slice none 0 0) ∧ w.heap.size ≤ t) ∧ Below w.heap.size w w' := by
  have C1 := Lib.hid (fun W => prim_any x.oc W)
  have C2 := Lib.hid (fun W => eCheck_any x.pr W hs)
  rw [hm, if_pos rfl] at C2
  have C3 := Lib.hid (fun W => clone_nil W)
  have C4 := Lib.hid (fun W => values_nil W)
  have C5 := Lib.hid (fun (t : Nat) (sR : Value) (W : World) (h : W.heap[t]? = some (.cells (celH x (.slice none 0 0) (.slice none 0 0) sR none) 136 (0, 0))) => fill_nil h)
  have C6 := Lib.hid (fun (t : Nat) (W : World) (h : HobE W t x (.slice none 0 0) (.slice none 0 0)) => suits_e h h3 h4)
  have q1 : decide (x.oc < 1) = false := by simpa using c1
  have q2 : decide (10 < x.oc) = false := by simpa using c2
  have q3 : decide (x.op < -1) = false := by simpa using p1
  have q4 : decide ((ahead : Int) ≤ x.op) = false := by simpa using p2
  have q5 : decide (x.on < 0) = false := by simpa using n1
  have q6 : decide (x.od < 0) = false := by simpa using n2
  have q7 : decide (x.os < 0) = false := by simpa using n3
  clear c1 c2 h3 h4 p1 p2 n1 n2 n3 hm hs
  obtain ⟨kk, hkk⟩ : ∃ kk, primK x.oc = kk := ⟨_, rfl⟩
  rw [hkk] at C1 hk
  have C1 := Lib.hid C1.out
  go_enter Tryz.func60, Tryz.ntmps60
  go_upto_region 1 with fail
  obtain ⟨W1, hW1⟩ : ∃ W1, w.alloc (.cells (celO x (.slice none 0 0) (.slice none 0 0)) 70) = W1 := ⟨_, rfl⟩
  have H1 := Lib.hid (SO.new hW1)
  rw [hW1]
  clear hW1 hkk
  have d0 : W1.cell? ⟨w.heap.size, 0, none⟩ = some (.int .i64 x.oc) := H1.out.cell rfl
  have d1 : W1.cell? ⟨w.heap.size, 1, none⟩ = some (.int .i64 x.op) := H1.out.cell rfl
  have d9 : W1.cell? ⟨w.heap.size, 9, none⟩ = some (.int .i64 x.on) := H1.out.cell rfl
  have d10 : W1.cell? ⟨w.heap.size, 10, none⟩ = some (.int .i64 x.od) := H1.out.cell rfl
  have d11 : W1.cell? ⟨w.heap.size, 11, none⟩ = some (.int .i64 x.os) := H1.out.cell rfl
  go_upto_region 7 with fail
  clear d0 d1 d9 d10 d11
  refine wp_region_held_drew (S := fun W => SO w W x (.slice none 0 0) (.slice none 0 0)) (by kernel_rfl) H1.out.drew (fun hHeld => ?_)
  clear H1
  refine take_s (i := 0) rfl (by kernel_rfl) (by kernel_rfl) (by kernel_rfl) (fun _ _ _ h => h) (Or.inl ⟨by rfl, by (intro w' hSw; go_simp; try with_reducible rfl)⟩) rfl (by assumption) ?_; simp only [lset]
  refine take_s (i := 1) rfl (by kernel_rfl) (by kernel_rfl) (by kernel_rfl) (fun _ _ _ h => h) (Or.inl ⟨by rfl, by (intro w' hSw; go_simp; try with_reducible rfl)⟩) rfl (by assumption) ?_; simp only [lset]
  refine take_s (v := .int .i64 kk) (i := 2) rfl (by kernel_rfl) (by kernel_rfl) (by kernel_rfl) (fun _ _ _ h => h) (Or.inl ⟨by rfl, by (intro w' hSw; have c := hSw.cell (k := 4) (u := .int .i64 kk) (by rw [← hk]; rfl); go_simp)⟩) rfl (by assumption) ?_; simp only [lset]
  refine take_s (i := 3) rfl (by kernel_rfl) (by kernel_rfl) (by kernel_rfl) (fun _ _ _ h => h) (Or.inl ⟨by rfl, by (intro w' hSw; go_simp; try with_reducible rfl)⟩) rfl (by assumption) ?_; simp only [lset]
  refine take_s (v := .int .i64 x.oc) (i := 4) rfl (by kernel_rfl) (by kernel_rfl) (by kernel_rfl) (fun _ _ _ h => h) (Or.inl ⟨by rfl, by (intro w' hSw; have c := hSw.cell (k := 0) (u := .int .i64 x.oc) rfl; go_simp)⟩) rfl (by assumption) ?_; simp only [lset]
  refine call_s (i := 5) (by kernel_rfl) rfl rfl (by rfl) (fun K hK => ?_)
  go_simp
  with_reducible refine (C1.out _).mono ?_
  rintro e w2 ⟨rfl, rfl⟩
  refine hK.out _ _ hHeld ?_; clear hK K; simp only [lset]
  refine take_s (v := .bool false) (i := 6) rfl (by kernel_rfl) (by kernel_rfl) (by kernel_rfl) (fun _ _ _ h => h) (Or.inl ⟨by rfl, by (intro w' hSw; go_simp)⟩) rfl (by assumption) ?_; simp only [lset]
  refine take_s (i := 7) rfl (by kernel_rfl) (by kernel_rfl) (by kernel_rfl) (fun _ _ _ h => h) (Or.inl ⟨by rfl, by (intro w' hSw; go_simp; try with_reducible rfl)⟩) rfl (by assumption) ?_; simp only [lset]
  refine take_s (i := 8) rfl (by kernel_rfl) (by kernel_rfl) (by kernel_rfl) (fun _ _ _ h => h) (Or.inl ⟨by rfl, by (intro w' hSw; go_simp; try with_reducible rfl)⟩) rfl (by assumption) ?_; simp only [lset]
  refine take_s (v := valV x.pr) (i := 9) rfl (by kernel_rfl) (by kernel_rfl) (by kernel_rfl) (fun _ _ _ h => h) (Or.inl ⟨by rfl, by (intro w' hSw; exact ldPr_run hSw rfl rfl)⟩) rfl (by assumption) ?_; simp only [lset]
  refine call_s (i := 10) (by kernel_rfl) rfl rfl (by rfl) (fun K hK => ?_)
  go_simp
  with_reducible refine (C2.out _).mono ?_
  rintro e w2 ⟨rfl, b2⟩
  have hHeld2 := hHeld.on b2
  clear hHeld b2
  have hHeld := hHeld2
  clear hHeld2
  refine hK.out _ _ hHeld ?_; clear hK K; simp only [lset]
  refine take_s (i := 11) rfl (by kernel_rfl) (by kernel_rfl) (by kernel_rfl) (fun _ _ _ h => h) (Or.inl ⟨by rfl, by (intro w' hSw; go_simp; try with_reducible rfl)⟩) rfl (by assumption) ?_; simp only [lset]
  refine take_s (i := 12) rfl (by kernel_rfl) (by kernel_rfl) (by kernel_rfl) (fun _ _ _ h => h) (Or.inl ⟨by rfl, by (intro w' hSw; go_simp; try with_reducible rfl)⟩) rfl (by assumption) ?_; simp only [lset]
  refine take_s (i := 13) rfl (by kernel_rfl) (by kernel_rfl) (by kernel_rfl) (fun _ _ _ h => h) (Or.inl ⟨by rfl, by (intro w' hSw; go_simp; try with_reducible rfl)⟩) rfl (by assumption) ?_; simp only [lset]
  refine wpAnyH_done (by kernel_rfl) ?_ _
  have H2 := Lib.hid hHeld
  clear hHeld C1 C2 q1 q2 q3 q4 q5 q6 q7 hk
  go_upto_region 10 with (first | refine ldO (k := 54) H2.out.k rfl (by kernel_rfl) rfl rfl ?_ | refine bldH (k := 55) rfl rfl rfl rfl ?_)
  obtain ⟨W3, hW3⟩ : ∃ W3, w2.alloc (.cells (celH x (.slice none 0 0) (.slice none 0 0) (.slice none 0 0) none) 136) = W3 := ⟨_, rfl⟩
  have hk3 : W3.heap[w2.heap.size]? = some (.cells (celH x (.slice none 0 0) (.slice none 0 0) (.slice none 0 0) none) 136 (0, 0)) := by rw [← hW3]; exact new1 _ _ _
  have H3 : Hid (SO w W3 x (.slice none 0 0) (.slice none 0 0)) := Lib.hid (by rw [← hW3]; exact H2.out.on (below_a1 _ _))
  have HT := Lib.hid (show w.heap.size < w2.heap.size from (Array.getElem?_eq_some_iff.1 H2.out.k).1)
  have HL := Lib.hid (show W3.heap.size = w2.heap.size + 1 by rw [← hW3]; simp)
  rw [hW3]
  clear hW3 H2
  obtain ⟨t, ht⟩ : ∃ t, w2.heap.size = t := ⟨_, rfl⟩
  rw [ht] at hk3 HT HL ⊢
  clear ht
  have e3 : ∀ v, (W3.setCell ⟨t, 3, none⟩ v).heap[t]? = some (.cells ((celH x (.slice none 0 0) (.slice none 0 0) (.slice none 0 0) none).setIfInBounds 3 v) 136 (0, 0)) := fun v => heap_setCell_same W3 t 3 _ 136 v hk3
  have d12 : W3.cell? ⟨w.heap.size, 12, none⟩ = some (.slice none 0 0) := H3.out.cell rfl
  have t3 : W3.cell? ⟨t, 3, none⟩ = some (.slice none 0 0) := (cell_of_row W3 t 3 _ _ _ hk3).trans rfl
  have f3 := frozen_of_row W3 t 3 _ _ hk3
  have t12 : (W3.setCell ⟨t, 3, none⟩ (.slice none 0 0)).cell? ⟨t, 12, none⟩ = some (.slice none 0 0) := (cell_of_row _ t 12 _ _ _ (e3 _)).trans rfl
  have f12 := frozen_of_row (W3.setCell ⟨t, 3, none⟩ (.slice none 0 0)) t 12 _ _ (e3 _)
  have HK := Lib.hid (show ((W3.setCell ⟨t, 3, none⟩ (.slice none 0 0)).setCell ⟨t, 12, none⟩ (.slice none 0 0)).heap[t]? = some (.cells (celH x (.slice none 0 0) (.slice none 0 0) (.slice none 0 0) none) 136 (0, 0)) from (heap_setCell_same _ t 12 _ 136 _ (e3 _)).trans rfl)
  have HX := Lib.hid (show Ex t W3 ((W3.setCell ⟨t, 3, none⟩ (.slice none 0 0)).setCell ⟨t, 12, none⟩ (.slice none 0 0)) from ⟨rfl, rfl, rfl, by simp [World.setCell], fun k _ hn => (Below.heap_setCell _ _ _ _ hn).trans (Below.heap_setCell _ _ _ _ hn)⟩)
  clear hk3 e3
  go_wp2_with fail
  refine (C3.out _).mono ?_
  rintro e w' ⟨rfl, rfl⟩
  go_upto_region 11 with fail
  obtain ⟨W4, hW4⟩ : ∃ W4, (W3.setCell ⟨t, 3, none⟩ (.slice none 0 0)).setCell ⟨t, 12, none⟩ (.slice none 0 0) = W4 := ⟨_, rfl⟩
  rw [hW4] at HK HX ⊢
  clear hW4 d12 t3 f3 t12 f12 C3
  have H4 : Hid (SO w W4 x (.slice none 0 0) (.slice none 0 0)) := Lib.hid ⟨(HX.out.block _ (by have := HT.out; have := HL.out; omega) (by have := HT.out; omega)).trans H3.out.k, H3.out.b.trans ⟨HX.out.os, HX.out.tape, HX.out.output, HX.out.size, fun k hk => HX.out.block k (by have := HT.out; have := HL.out; omega) (by have := HT.out; omega)⟩⟩
  have d3 : W4.cell? ⟨w.heap.size, 3, none⟩ = some (.slice none 0 0) := H4.out.cell rfl
  have d12 : W4.cell? ⟨w.heap.size, 12, none⟩ = some (.slice none 0 0) := H4.out.cell rfl
  have HZ := Lib.hid (show t < W4.heap.size by have := HX.out.size; have := HL.out; omega)
  clear HX H3 HL
  go_wp2_with fail
  refine (C4.out _).mono ?_
  rintro e w' ⟨rfl, rfl⟩
  clear C4
  go_wp2_with fail
  refine (C5.out _ _ _ HK.out).mono ?_
  rintro e w5 ⟨rfl, hq, hx⟩
  have H5 := Lib.hid (show HobE w5 t x (.slice none 0 0) (.slice none 0 0) from hq)
  have B5 := Lib.hid (show Below w.heap.size w w5 from H4.out.b.trans ⟨hx.os, hx.tape, hx.output, hx.size, fun k hk => hx.block k (by have := HT.out; have := HZ.out; omega) (by have := HT.out; omega)⟩)
  clear hq hx C5 HK H4 HZ d3 d12
  go_wp2_with fail
  refine (C6.out _ _ H5.out).mono ?_
  rintro e w6 ⟨rfl, b6⟩
  have H6 := Lib.hid (H5.out.on b6)
  have B6 := Lib.hid (B5.out.trans (b6.mono B5.out.size))
  clear b6 C6 H5 B5
  go_wp2
  go_ret2
  exact ⟨⟨t, rfl, H6.out, by have := HT.out; omega⟩, B6.out⟩
end Go.Proofs.YtmlgjijjkikkhaaGreatDoor
