/-
  The law's Clean, CleanAll, Text, Done.
-/
import Derived.Test.YtmlgjijjkikkhaaGreatDoorMa1
import Derived.Test.YtmlgjijjkikkhaaGreatDoorN12
import Derived.Test.YtmlgjijjkikkhaaGreatDoorF2
import Derived.Laws.CopyRow
import Derived.Great.BuildSlice
namespace Go.Proofs.YtmlgjijjkikkhaaGreatDoor
open Go.RowKit
attribute [local go_sem] stF neqM eqS
theorem run_storeVar_seg {P : Program} (w : World) (g off : Nat) (t ty : TypeId) (old cells new : Array Value) (hg : w.heap[g]? = some (.cells old t (0, 0))) (hi : (P.info? ty).map (·.size) = some cells.size)
    (hl : off + cells.size ≤ old.size) (h1 : cells.all (·.oneCell') = true) (hnew : (old.toList.take off ++ cells.toList ++ old.toList.drop (off + cells.size)).toArray = new) :
    (storeVar ty ⟨g, off, none⟩ (.agg cells)).run P w = .ok () (w.setRow g new) := by
  have := run_storeCells_at (P := P) g off t cells.toList 0 old w hg (by simp; omega) (fun v hv => (Array.all_eq_true_iff_forall_mem.1 h1) v (by simpa using hv))
  rw [Nat.add_zero, Array.length_toList, hnew] at this
  cases hq : P.info? ty with
  | none => simp [hq] at hi
  | some i =>
    have hs : cells.size = i.size := by simp [hq] at hi; omega
    simp [storeVar, sizeOf, typeInfo, hq, Value.cells, hs, this]
theorem stSeg {ops : Array Oper} {rest : List Oper} {o : Oper} {a : Act} {w : World} {Q : Exit → Act → World → Prop} {x y : Operand} {g off : Nat} {ty : TypeId} {cells : Array Value} (new : Array Value) (hgd : o.guard = none) (ho : o.op = .store ty x y) (hx : a.eval x = .pointer (some ⟨g, off, none⟩)) (hy : a.eval y = .agg cells)
    (hr : (storeVar ty ⟨g, off, none⟩ (.agg cells)).run Tryz.prog w = .ok () (w.setRow g new)) (h : wpList Tryz.prog ops Q rest (a.put o.dst undef) (w.setRow g new)) : wpList Tryz.prog ops Q (o :: rest) a w :=
  wpList_plain hgd fun K hK => by
    unfold Oper.wp execOp
    simp only [ho, hx, hy, Instr.storeAt, Instr.sureAddr, Sem.run_bind, Sem.run_pure, Result.andThen_ok, hr]
    exact hK _ _ h
theorem CelAt.ld {W : World} {b o : Nat} {v : Val} (h : CelAt W b o v) : (loadVar 57 ⟨b, o, none⟩).run Tryz.prog W = .ok (.agg (celX v)) W := by
  have hl : (loadCells ⟨b, o, none⟩ (celV v).toList.length).run Tryz.prog W = .ok (celV v).toList.toArray W :=
    run_loadCells_list (P := Tryz.prog) W ⟨b, o, none⟩ (celV v).toList (fun j u hu => by
      have hadd : (⟨b, o, none⟩ : Addr).add j = ⟨b, o + j, none⟩ := by unfold Addr.add; split <;> simp_all
      rw [hadd]
      exact h.get (by rw [← Array.getElem?_toList]; exact hu))
  have hagg : (isAgg 57).run Tryz.prog W = .ok true W := by
    unfold isAgg
    rw [Sem.run_bind, run_underlying Tryz.underlying57 W]
    rfl
  obtain ⟨i, hq, hs⟩ : ∃ i, Tryz.prog.info? 57 = some i ∧ i.size = 5 := ⟨Tryz.t57, by kernel_rfl, by kernel_rfl⟩
  have hl' : (loadCells ⟨b, o, none⟩ 5).run Tryz.prog W = .ok (celV v) W := hl
  simp [loadVar, Sem.run_bind, hagg, sizeOf, typeInfo, hq, hs, hl']
  rfl
/-- A value that may be; of others undefined. -/
def clnV (v : Val) : Val := if mayB v then v else valU
set_option maxRecDepth 100000 in
set_option maxHeartbeats 2000000 in
theorem clean_any (v : Val) (w : World) : Calls Tryz.prog 26 #[.agg (celX v)] w fun e w' => e = .returned (.agg (celX (clnV v))) ∧ Below w.heap.size w w' := by
  have C1 := Lib.hid (fun W => fMay_any v W)
  have b1 := below_a2 w (.cells (celX v) 57) (.cells #[.int .i64 0, .bool false, .float .f64 0, .string ⟨#[]⟩, .int .i64 0] 57)
  have k0 : ((w.alloc (.cells (celX v) 57)).alloc (.cells #[.int .i64 0, .bool false, .float .f64 0, .string ⟨#[]⟩, .int .i64 0] 57)).heap[w.heap.size]? = some (.cells (celX v) 57 (0, 0)) := ((below_a1 _ _).block _ (by simp)).trans (new1 w _ _)
  have k1 : ((w.alloc (.cells (celX v) 57)).alloc (.cells #[.int .i64 0, .bool false, .float .f64 0, .string ⟨#[]⟩, .int .i64 0] 57)).heap[w.heap.size + 1]? = some (.cells #[.int .i64 0, .bool false, .float .f64 0, .string ⟨#[]⟩, .int .i64 0] 57 (0, 0)) := by
    have := new1 (w.alloc (.cells (celX v) 57)) #[.int .i64 0, .bool false, .float .f64 0, .string ⟨#[]⟩, .int .i64 0] 57
    simpa using this
  obtain ⟨t, ht⟩ : ∃ t, mayB v = t := ⟨_, rfl⟩
  unfold clnV
  rw [ht] at C1 ⊢
  clear ht
  go_enter Tryz.func26, Tryz.ntmps26
  go_upto_region 1 with fail
  obtain ⟨W1, hW1⟩ : ∃ W1, (w.alloc (.cells (celX v) 57)).alloc (.cells #[.int .i64 0, .bool false, .float .f64 0, .string ⟨#[]⟩, .int .i64 0] 57) = W1 := ⟨_, rfl⟩
  rw [hW1] at b1 k0 k1 ⊢
  clear hW1
  have B1 := Lib.hid b1
  have K0 := Lib.hid k0
  have K1 := Lib.hid k1
  clear b1 k0 k1
  cases t
  all_goals
    go_wp2_with (refine ldP (k := 3) (run_loadVar_row _ w.heap.size 57 57 _ (0, 0) _ K0.out Tryz.underlying57 rfl (by kernel_rfl)) rfl (by kernel_rfl) rfl rfl ?_)
    refine (C1.out _).mono ?_
    rintro e W2 ⟨rfl, b2⟩
    have K2 := Lib.hid ((b2.block _ (Array.getElem?_eq_some_iff.1 K0.out).1).trans K0.out)
    have K3 := Lib.hid ((b2.block _ (Array.getElem?_eq_some_iff.1 K1.out).1).trans K1.out)
    have B2 := Lib.hid (B1.out.trans (b2.mono B1.out.size))
    clear b2 K0 K1 B1 C1
  · go_wp2_with (refine wpList_store_row rfl 57 _ _ rfl (w.heap.size + 1) _ rfl rfl 57 _ K3.out (by kernel_rfl) rfl (by kernel_rfl) ?_)
    exact cR1 rfl rfl (run_loadVar_row _ (w.heap.size + 1) 57 57 (celX valU) (0, 0) _ (setRow_heap _ _ _ _ _ _ K3.out) Tryz.underlying57 rfl (by kernel_rfl)) rfl ⟨rfl, below_setRowK B2.out (Nat.le_succ _) _⟩
  · go_wp2_with (first | refine ldP (k := 5) (run_loadVar_row _ w.heap.size 57 57 _ (0, 0) _ K2.out Tryz.underlying57 rfl (by kernel_rfl)) rfl (by kernel_rfl) rfl rfl ?_ | refine wpList_store_row rfl 57 _ _ rfl (w.heap.size + 1) _ rfl rfl 57 _ K3.out (by kernel_rfl) rfl (by kernel_rfl) ?_)
    exact cR1 rfl rfl (run_loadVar_row _ (w.heap.size + 1) 57 57 (celX v) (0, 0) _ (setRow_heap _ _ _ _ _ _ K3.out) Tryz.underlying57 rfl (by kernel_rfl)) rfl ⟨rfl, below_setRowK B2.out (Nat.le_succ _) _⟩
/-- An even number of bytes. -/
def evS (s : ByteArray) : ByteArray := s.extract 0 (s.size / 2 * 2)
set_option maxRecDepth 100000 in
set_option maxHeartbeats 2000000 in
theorem text14_any (s : ByteArray) (w : World) (hs : s.size ≤ maxLen) : Calls Tryz.prog 50 #[.string s] w fun e w' => e = .returned (.string (evS s)) ∧ w = w' := by
  unfold maxLen at hs
  obtain ⟨n, hn⟩ : ∃ n : Nat, s.size = n := ⟨_, rfl⟩
  have q2 : wrap64 (((n / 2 : Nat) : Int)) = ((n / 2 : Nat) : Int) := by unfold wrap64; omega
  have q3 : wrap64 (((n / 2 : Nat) : Int) * 2) = ((n / 2 * 2 : Nat) : Int) := by unfold wrap64; omega
  have q4 : ((n / 2 * 2 : Nat) : Int) ≤ (s.size : Int) := by omega
  have q5 : (0 : Int) ≤ ((n / 2 * 2 : Nat) : Int) := by omega
  go_enter Tryz.func50, Tryz.ntmps50
  go_wp2
  go_ret
  exact ⟨by unfold evS; rw [hn]; rfl, rfl⟩
theorem flatV_app (a b : List Val) : flatV (a ++ b) = flatV a ++ flatV b := by unfold flatV; rw [List.flatMap_append]
set_option maxRecDepth 100000 in
set_option maxHeartbeats 2000000 in
theorem cleanAll_any {l : List Val} {A : Option Addr} {c : Nat} {w : World} (h : ValsAt w.heap.size w l A c) :
    Calls Tryz.prog 27 #[.slice A l.length c] w fun e w' => (∃ v', e = .returned v' ∧ w'.ownsRow w.heap.size 57 5 v' l.length (flatV (l.map clnV))) ∧ Below w.heap.size w w' := by
  obtain ⟨i0, hi, hz0, hz1, hz2⟩ := info_parts info_val
  have C1 := Lib.hid (fun v W => clean_any v W)
  have H := Lib.hid h
  have HM := Lib.hid h.mx
  have HIO := Lib.hid (And.intro hi (And.intro hz0 (And.intro hz1 hz2)))
  have hown : (w.alloc (.cells #[] 57)).ownsRow w.heap.size 57 5 (.slice (some ⟨w.heap.size, 0, none⟩) 0 0) 0 [] := ⟨rfl, .inr ⟨w.heap.size, 0, #[], rfl, Nat.le_refl _, heap_alloc_last w _, Nat.le_refl _, Nat.zero_le _, rfl, rfl⟩⟩
  have HO := Lib.hid hown
  have HB := Lib.hid (below_a1 w (.cells #[] 57))
  clear h hi hz0 hz1 hz2 hown
  go_enter Tryz.func27, Tryz.ntmps27
  go_wp2_with fail
  go_loopw [3, 4] (fun v3 v4 wr => ∃ k : Nat, ∃ v : Value, v3 = v ∧ v4 = .int .i64 (k : Nat) ∧ Hid (k ≤ l.length) ∧ Hid (wr.ownsRow w.heap.size 57 5 v k (flatV ((l.take k).map clnV))) ∧ Hid (Below w.heap.size w wr)) (fun _ v4 _ => ((l.length : Int) - intOf v4).toNat)
  case atStart => exact ⟨0, _, rfl, rfl, Lib.hid (Nat.zero_le _), HO, HB⟩
  case round =>
    obtain ⟨k, v, rfl, rfl, HK, HR, HW⟩ := hrel
    by_cases hkn : k < l.length
    · have hm' := HM.out
      have t1 : decide ((k : Int) < (l.length : Int)) = true := decide_eq_true (by omega)
      have t2 : (k : Int) < (l.length : Int) := by omega
      have t3 : (0 : Int) ≤ (k : Int) := by omega
      have k1 : IntKind.i64.wrap ((k : Int) + 1) = ((k + 1 : Nat) : Int) := by rw [IntWalk.i64_in _ (by omega)]; omega
      obtain ⟨x, hx⟩ : ∃ x, l[k]? = some x := ⟨_, List.getElem?_eq_getElem hkn⟩
      obtain ⟨b, o, hA, hbl, hat⟩ := H.out.at' (by rintro rfl; simp at hkn)
      have hca := (hat k x hx).on HW.out hbl
      have CA := Lib.hid hca
      have HX := Lib.hid hx
      have HKN := Lib.hid hkn
      subst hA
      clear hx hkn hm' hat hca HO HB
      go_wp2_with (refine ldP (k := 16) CA.out.ld rfl (by kernel_rfl) rfl rfl ?_)
      refine (C1.out x _).mono ?_
      rintro e w2 ⟨rfl, b2⟩
      have hown2 : w2.ownsRow w.heap.size 57 5 u3 k (flatV ((l.take k).map clnV)) := by
        have hr := HR.out
        refine ⟨hr.1, ?_⟩
        rcases hr.2 with hn | ⟨g, cap, cur, e, hbg, hg, rest⟩
        · exact .inl hn
        · exact .inr ⟨g, cap, cur, e, hbg, (b2.block _ (Array.getElem?_eq_some_iff.1 hg).1).trans hg, rest⟩
      have B2 := Lib.hid (HW.out.trans (b2.mono HW.out.size))
      have HS := Lib.hid (show w.heap.size ≤ w2.heap.size from Nat.le_trans HW.out.size b2.size)
      have hnews : ∀ j u, (celX (clnV x)).toList[j]? = some u → (w2.alloc (.cells (celX (clnV x)) 57)).cell? ((⟨w2.heap.size, 0, none⟩ : Addr).add j) = some u := by
        intro j u hu
        have hadd : (⟨w2.heap.size, 0, none⟩ : Addr).add j = ⟨w2.heap.size, j, none⟩ := by unfold Addr.add; split <;> simp_all
        rw [hadd]
        exact (cell_of_row _ _ j _ _ _ (new1 w2 _ _)).trans (by rw [← Array.getElem?_toList]; exact hu)
      have h1c : ∀ u ∈ (celX (clnV x)).toList, u.oneCell' = true := by
        intro u hu
        simp at hu
        rcases hu with rfl | rfl | rfl | rfl | rfl <;> rfl
      obtain ⟨hi, hz0, hz1, hz2⟩ := HIO.out
      have HN := Lib.hid hnews
      have H1C := Lib.hid h1c
      clear b2 HR HW C1 CA hnews h1c
      go_wp2_with (at_builtin; refine wpList_append_own _ rfl _ _ 59 rfl w.heap.size 57 i0 (.agg #[.int .i64 0, .bool false, .float .f64 0, .string ⟨#[]⟩, .int .i64 0]) 5 48 Tryz.underlying59 hi hz0 hz1 hz2 rfl (by decide) _ _ _ rfl (hown2.alloc _) ⟨w2.heap.size, 0, none⟩ 1 1 (celX (clnV x)).toList rfl rfl HN.out H1C.out (by have := HM.out; have := HKN.out; unfold maxLen; omega) (by have := HM.out; have := HKN.out; omega) (by have := HS.out; simp; omega) ?_; intro v' w6 hown6 hgrow6 hnil6; refine Hid.out ?_)
      have O6 := Lib.hid (show w6.ownsRow w.heap.size 57 5 v' (k + 1) (flatV ((l.take (k + 1)).map clnV)) by
        have e : flatV ((l.take (k + 1)).map clnV) = flatV ((l.take k).map clnV) ++ (celX (clnV x)).toList := by
          rw [List.take_add_one, HX.out]
          simp only [Option.toList_some, List.map_append, List.map_cons, List.map_nil, flatV_app]
          congr 1
        rw [e]
        exact hown6)
      have B6 := Lib.hid (B2.out.trans ((below_a1 w2 (.cells (celX (clnV x)) 57)).mono HS.out |>.trans ⟨hgrow6.os, hgrow6.tape, hgrow6.output, hgrow6.size, fun j hj => hgrow6.block j (by have := HS.out; simp; omega) (fun e => by have := (hown2.lt j e.symm).1; omega)⟩))
      clear hown2 hown6 hgrow6 hnil6 B2 HN H1C hi hz0 hz1 hz2
      refine Lib.hid ?_
      go_wp2
      go_roundw
      case rel => exact ⟨k + 1, _, rfl, by go_num, Lib.hid (by have := HKN.out; omega), O6, B6⟩
      case measure => have := HKN.out; simp [intOf]; omega
    · have t1 : decide ((k : Int) < (l.length : Int)) = false := decide_eq_false (by omega)
      have t2 : ¬ ((k : Int) < (l.length : Int)) := by omega
      have hk : k = l.length := by have := HK.out; omega
      have hr := HR.out
      rw [hk, List.take_length] at hr
      have HR := Lib.hid hr
      clear hkn hr
      go_wp2
      go_ret
      exact ⟨⟨_, rfl, HR.out⟩, HW.out⟩
/-- An end's kind, made one that may be. -/
def endK (k : Int) : Int := if k < 0 ∨ 5 ≤ k then 0 else k
def endL (k : Int) (s : ByteArray) : ByteArray := if endK k < 3 then ⟨#[]⟩ else evS s
theorem ev_nil : evS ⟨#[]⟩ = ⟨#[]⟩ := rfl
theorem ldSegD {W : World} {g : Nat} {k : Int} {v : Val} {s : ByteArray} (hg : W.heap[g]? = some (.cells (celD k v s) 63 (0, 0))) : (loadVar 57 ⟨g, 1, none⟩).run Tryz.prog W = .ok (.agg (celX v)) W :=
  run_load_seg (P := Tryz.prog) W g 1 5 63 57 _ (0, 0) _ hg Tryz.underlying57 rfl (by kernel_rfl) (by show 1 + 5 ≤ 7; omega)
set_option maxRecDepth 100000 in
set_option maxHeartbeats 4000000 in
theorem done_any (k : Int) (v : Val) (s : ByteArray) (w : World) (hs : s.size ≤ maxLen) : Calls Tryz.prog 25 #[.agg (celD k v s)] w fun e w' => e = .returned (.agg (celD (endK k) (clnV v) (endL k s))) ∧ Below w.heap.size w w' := by
  have C1 := Lib.hid (fun W => clean_any v W)
  have C2 := Lib.hid (fun W => text14_any s W hs)
  have C3 := Lib.hid (fun W => text14_any ⟨#[]⟩ W (by decide))
  have b1 := below_a2 w (.cells (celD k v s) 63) (.cells zD 63)
  have k0 : ((w.alloc (.cells (celD k v s) 63)).alloc (.cells zD 63)).heap[w.heap.size]? = some (.cells (celD k v s) 63 (0, 0)) := ((below_a1 _ _).block _ (by simp)).trans (new1 w _ _)
  have k1 : ((w.alloc (.cells (celD k v s) 63)).alloc (.cells zD 63)).heap[w.heap.size + 1]? = some (.cells zD 63 (0, 0)) := by
    have := new1 (w.alloc (.cells (celD k v s) 63)) zD 63
    simpa using this
  go_enter Tryz.func25, Tryz.ntmps25
  go_upto_region 1 with fail
  obtain ⟨W1, hW1⟩ : ∃ W1, (w.alloc (.cells (celD k v s) 63)).alloc (.cells zD 63) = W1 := ⟨_, rfl⟩
  rw [hW1] at b1 k0 k1 ⊢
  clear hW1 hs
  go_wp2_with (refine ldP (k := 4) (ldSegD k0) rfl (by kernel_rfl) rfl rfl ?_)
  refine (C1.out _).mono ?_
  rintro e W2 ⟨rfl, b2⟩
  have p0 := (b2.block _ (Array.getElem?_eq_some_iff.1 k0).1).trans k0
  have p1 := (b2.block _ (Array.getElem?_eq_some_iff.1 k1).1).trans k1
  have B2 := Lib.hid (b1.trans (b2.mono b1.size))
  clear C1 b1 k0 k1 b2
  go_upto_region 2 with (refine stSeg (celD k (clnV v) s) rfl rfl rfl rfl (run_storeVar_seg _ w.heap.size 1 63 57 _ _ _ p0 (by kernel_rfl) (by show 1 + 5 ≤ 7; omega) (by kernel_rfl) (by kernel_rfl)) ?_)
  have r0 := setRow_heap _ _ _ (celD k (clnV v) s) _ _ p0
  have r1 := (setRow_other W2 w.heap.size (w.heap.size + 1) (celD k (clnV v) s) (by omega)).trans p1
  have B3 := Lib.hid (below_setRowK B2.out (Nat.le_refl _) (celD k (clnV v) s))
  obtain ⟨W3, hW3⟩ : ∃ W3, W2.setRow w.heap.size (celD k (clnV v) s) = W3 := ⟨_, rfl⟩
  rw [hW3] at r0 r1 B3 ⊢
  clear hW3 p0 p1 B2
  have c0 : W3.cell? ⟨w.heap.size, 0, none⟩ = some (.int .i64 k) := (cell_of_row W3 _ 0 _ _ _ r0).trans rfl
  have f0 := frozen_of_row W3 w.heap.size 0 _ _ r0
  have r0W3 := r0
  have r1W3 := r1
  have BW3 := B3
  clear r0 r1 B3
  have hz : k < 0 ∨ 5 ≤ k ∨ (0 ≤ k ∧ k < 3) ∨ (3 ≤ k ∧ k < 5) := by omega
  rcases hz with hk | hk | hk | hk
  · skip
    have q1 : decide (k < 0) = true := decide_eq_true hk
    have e1 : endK k = 0 := if_pos (.inl hk)
    have e2 : endL k s = ⟨#[]⟩ := if_pos (by rw [e1]; omega)
    go_upto_region 4 with fail
    have r0W4 : (W3.setCell ⟨w.heap.size, 0, none⟩ (.int .i64 0)).heap[w.heap.size]? = some (.cells (celD 0 (clnV v) s) 63 (0, 0)) := (heap_setCell_same W3 w.heap.size 0 _ 63 _ r0W3).trans rfl
    have r1W4 : (W3.setCell ⟨w.heap.size, 0, none⟩ (.int .i64 0)).heap[w.heap.size + 1]? = some (.cells zD 63 (0, 0)) := (Below.heap_setCell W3 _ _ _ (by show w.heap.size + 1 ≠ w.heap.size; omega)).trans r1W3
    have BW4 := Lib.hid (BW3.out.trans ((ey_set W3 w.heap.size 0 (.int .i64 0)).below BW3.out.size (Nat.le_refl _)))
    obtain ⟨W4, hW4⟩ : ∃ W4, W3.setCell ⟨w.heap.size, 0, none⟩ (.int .i64 0) = W4 := ⟨_, rfl⟩
    rw [hW4] at r0W4 r1W4 BW4 ⊢
    clear hW4 r0W3 r1W3 BW3
    clear c0 f0
    have c0 : W4.cell? ⟨w.heap.size, 0, none⟩ = some (.int .i64 0) := (cell_of_row W4 _ 0 _ _ _ r0W4).trans rfl
    have c6 : W4.cell? ⟨w.heap.size, 6, none⟩ = some (.string s) := (cell_of_row W4 _ 6 _ _ _ r0W4).trans rfl
    have f6 := frozen_of_row W4 w.heap.size 6 _ _ r0W4
    go_upto_region 6 with fail
    have r0W5 : (W4.setCell ⟨w.heap.size, 6, none⟩ (.string ⟨#[]⟩)).heap[w.heap.size]? = some (.cells (celD 0 (clnV v) ⟨#[]⟩) 63 (0, 0)) := (heap_setCell_same W4 w.heap.size 6 _ 63 _ r0W4).trans rfl
    have r1W5 : (W4.setCell ⟨w.heap.size, 6, none⟩ (.string ⟨#[]⟩)).heap[w.heap.size + 1]? = some (.cells zD 63 (0, 0)) := (Below.heap_setCell W4 _ _ _ (by show w.heap.size + 1 ≠ w.heap.size; omega)).trans r1W4
    have BW5 := Lib.hid (BW4.out.trans ((ey_set W4 w.heap.size 6 (.string ⟨#[]⟩)).below BW4.out.size (Nat.le_refl _)))
    obtain ⟨W5, hW5⟩ : ∃ W5, W4.setCell ⟨w.heap.size, 6, none⟩ (.string ⟨#[]⟩) = W5 := ⟨_, rfl⟩
    rw [hW5] at r0W5 r1W5 BW5 ⊢
    clear hW5 r0W4 r1W4 BW4
    clear c6 f6 c0
    have c6 : W5.cell? ⟨w.heap.size, 6, none⟩ = some (.string ⟨#[]⟩) := (cell_of_row W5 _ 6 _ _ _ r0W5).trans rfl
    have f6 := frozen_of_row W5 w.heap.size 6 _ _ r0W5
    go_wp2_with fail
    refine (C3.out _).mono ?_
    rintro e w' ⟨rfl, rfl⟩
    go_upto_region 7 with fail
    rw [show evS ⟨#[]⟩ = ⟨#[]⟩ from rfl]
    have r0W6 : (W5.setCell ⟨w.heap.size, 6, none⟩ (.string ⟨#[]⟩)).heap[w.heap.size]? = some (.cells (celD 0 (clnV v) ⟨#[]⟩) 63 (0, 0)) := (heap_setCell_same W5 w.heap.size 6 _ 63 _ r0W5).trans rfl
    have r1W6 : (W5.setCell ⟨w.heap.size, 6, none⟩ (.string ⟨#[]⟩)).heap[w.heap.size + 1]? = some (.cells zD 63 (0, 0)) := (Below.heap_setCell W5 _ _ _ (by show w.heap.size + 1 ≠ w.heap.size; omega)).trans r1W5
    have BW6 := Lib.hid (BW5.out.trans ((ey_set W5 w.heap.size 6 (.string ⟨#[]⟩)).below BW5.out.size (Nat.le_refl _)))
    obtain ⟨W6, hW6⟩ : ∃ W6, W5.setCell ⟨w.heap.size, 6, none⟩ (.string ⟨#[]⟩) = W6 := ⟨_, rfl⟩
    rw [hW6] at r0W6 r1W6 BW6 ⊢
    clear hW6 r0W5 r1W5 BW5
    have K0 := Lib.hid r0W6
    have K1 := Lib.hid r1W6
    clear r0W6 r1W6 C2 C3 c6 f6
    go_wp2_with (first | refine ldP (k := 24) (run_loadVar_row _ w.heap.size 63 63 _ (0, 0) _ K0.out Tryz.underlying63 rfl (by kernel_rfl)) rfl (by kernel_rfl) rfl rfl ?_ | refine wpList_store_row rfl 63 _ _ rfl (w.heap.size + 1) _ rfl rfl 63 _ K1.out (by kernel_rfl) rfl (by kernel_rfl) ?_)
    exact cR1 rfl rfl (run_loadVar_row _ (w.heap.size + 1) 63 63 (celD 0 (clnV v) ⟨#[]⟩) (0, 0) _ (setRow_heap _ _ _ _ _ _ K1.out) Tryz.underlying63 rfl (by kernel_rfl)) rfl ⟨by rw [e1, e2], below_setRowK BW6.out (Nat.le_succ _) _⟩
  · skip
    have q1 : decide (k < 0) = false := decide_eq_false (by omega)
    have q2 : decide (5 ≤ k) = true := decide_eq_true hk
    have e1 : endK k = 0 := if_pos (.inr hk)
    have e2 : endL k s = ⟨#[]⟩ := if_pos (by rw [e1]; omega)
    go_upto_region 4 with fail
    have r0W4 : (W3.setCell ⟨w.heap.size, 0, none⟩ (.int .i64 0)).heap[w.heap.size]? = some (.cells (celD 0 (clnV v) s) 63 (0, 0)) := (heap_setCell_same W3 w.heap.size 0 _ 63 _ r0W3).trans rfl
    have r1W4 : (W3.setCell ⟨w.heap.size, 0, none⟩ (.int .i64 0)).heap[w.heap.size + 1]? = some (.cells zD 63 (0, 0)) := (Below.heap_setCell W3 _ _ _ (by show w.heap.size + 1 ≠ w.heap.size; omega)).trans r1W3
    have BW4 := Lib.hid (BW3.out.trans ((ey_set W3 w.heap.size 0 (.int .i64 0)).below BW3.out.size (Nat.le_refl _)))
    obtain ⟨W4, hW4⟩ : ∃ W4, W3.setCell ⟨w.heap.size, 0, none⟩ (.int .i64 0) = W4 := ⟨_, rfl⟩
    rw [hW4] at r0W4 r1W4 BW4 ⊢
    clear hW4 r0W3 r1W3 BW3
    clear c0 f0
    have c0 : W4.cell? ⟨w.heap.size, 0, none⟩ = some (.int .i64 0) := (cell_of_row W4 _ 0 _ _ _ r0W4).trans rfl
    have c6 : W4.cell? ⟨w.heap.size, 6, none⟩ = some (.string s) := (cell_of_row W4 _ 6 _ _ _ r0W4).trans rfl
    have f6 := frozen_of_row W4 w.heap.size 6 _ _ r0W4
    go_upto_region 6 with fail
    have r0W5 : (W4.setCell ⟨w.heap.size, 6, none⟩ (.string ⟨#[]⟩)).heap[w.heap.size]? = some (.cells (celD 0 (clnV v) ⟨#[]⟩) 63 (0, 0)) := (heap_setCell_same W4 w.heap.size 6 _ 63 _ r0W4).trans rfl
    have r1W5 : (W4.setCell ⟨w.heap.size, 6, none⟩ (.string ⟨#[]⟩)).heap[w.heap.size + 1]? = some (.cells zD 63 (0, 0)) := (Below.heap_setCell W4 _ _ _ (by show w.heap.size + 1 ≠ w.heap.size; omega)).trans r1W4
    have BW5 := Lib.hid (BW4.out.trans ((ey_set W4 w.heap.size 6 (.string ⟨#[]⟩)).below BW4.out.size (Nat.le_refl _)))
    obtain ⟨W5, hW5⟩ : ∃ W5, W4.setCell ⟨w.heap.size, 6, none⟩ (.string ⟨#[]⟩) = W5 := ⟨_, rfl⟩
    rw [hW5] at r0W5 r1W5 BW5 ⊢
    clear hW5 r0W4 r1W4 BW4
    clear c6 f6 c0
    have c6 : W5.cell? ⟨w.heap.size, 6, none⟩ = some (.string ⟨#[]⟩) := (cell_of_row W5 _ 6 _ _ _ r0W5).trans rfl
    have f6 := frozen_of_row W5 w.heap.size 6 _ _ r0W5
    go_wp2_with fail
    refine (C3.out _).mono ?_
    rintro e w' ⟨rfl, rfl⟩
    go_upto_region 7 with fail
    rw [show evS ⟨#[]⟩ = ⟨#[]⟩ from rfl]
    have r0W6 : (W5.setCell ⟨w.heap.size, 6, none⟩ (.string ⟨#[]⟩)).heap[w.heap.size]? = some (.cells (celD 0 (clnV v) ⟨#[]⟩) 63 (0, 0)) := (heap_setCell_same W5 w.heap.size 6 _ 63 _ r0W5).trans rfl
    have r1W6 : (W5.setCell ⟨w.heap.size, 6, none⟩ (.string ⟨#[]⟩)).heap[w.heap.size + 1]? = some (.cells zD 63 (0, 0)) := (Below.heap_setCell W5 _ _ _ (by show w.heap.size + 1 ≠ w.heap.size; omega)).trans r1W5
    have BW6 := Lib.hid (BW5.out.trans ((ey_set W5 w.heap.size 6 (.string ⟨#[]⟩)).below BW5.out.size (Nat.le_refl _)))
    obtain ⟨W6, hW6⟩ : ∃ W6, W5.setCell ⟨w.heap.size, 6, none⟩ (.string ⟨#[]⟩) = W6 := ⟨_, rfl⟩
    rw [hW6] at r0W6 r1W6 BW6 ⊢
    clear hW6 r0W5 r1W5 BW5
    have K0 := Lib.hid r0W6
    have K1 := Lib.hid r1W6
    clear r0W6 r1W6 C2 C3 c6 f6
    go_wp2_with (first | refine ldP (k := 24) (run_loadVar_row _ w.heap.size 63 63 _ (0, 0) _ K0.out Tryz.underlying63 rfl (by kernel_rfl)) rfl (by kernel_rfl) rfl rfl ?_ | refine wpList_store_row rfl 63 _ _ rfl (w.heap.size + 1) _ rfl rfl 63 _ K1.out (by kernel_rfl) rfl (by kernel_rfl) ?_)
    exact cR1 rfl rfl (run_loadVar_row _ (w.heap.size + 1) 63 63 (celD 0 (clnV v) ⟨#[]⟩) (0, 0) _ (setRow_heap _ _ _ _ _ _ K1.out) Tryz.underlying63 rfl (by kernel_rfl)) rfl ⟨by rw [e1, e2], below_setRowK BW6.out (Nat.le_succ _) _⟩
  · skip
    have q1 : decide (k < 0) = false := decide_eq_false (by omega)
    have q2 : decide (5 ≤ k) = false := decide_eq_false (by omega)
    have q3 : decide (k < 3) = true := decide_eq_true hk.2
    have e1 : endK k = k := if_neg (by omega)
    have e2 : endL k s = ⟨#[]⟩ := if_pos (by rw [e1]; omega)
    have c6 : W3.cell? ⟨w.heap.size, 6, none⟩ = some (.string s) := (cell_of_row W3 _ 6 _ _ _ r0W3).trans rfl
    have f6 := frozen_of_row W3 w.heap.size 6 _ _ r0W3
    go_upto_region 6 with fail
    have r0W5 : (W3.setCell ⟨w.heap.size, 6, none⟩ (.string ⟨#[]⟩)).heap[w.heap.size]? = some (.cells (celD k (clnV v) ⟨#[]⟩) 63 (0, 0)) := (heap_setCell_same W3 w.heap.size 6 _ 63 _ r0W3).trans rfl
    have r1W5 : (W3.setCell ⟨w.heap.size, 6, none⟩ (.string ⟨#[]⟩)).heap[w.heap.size + 1]? = some (.cells zD 63 (0, 0)) := (Below.heap_setCell W3 _ _ _ (by show w.heap.size + 1 ≠ w.heap.size; omega)).trans r1W3
    have BW5 := Lib.hid (BW3.out.trans ((ey_set W3 w.heap.size 6 (.string ⟨#[]⟩)).below BW3.out.size (Nat.le_refl _)))
    obtain ⟨W5, hW5⟩ : ∃ W5, W3.setCell ⟨w.heap.size, 6, none⟩ (.string ⟨#[]⟩) = W5 := ⟨_, rfl⟩
    rw [hW5] at r0W5 r1W5 BW5 ⊢
    clear hW5 r0W3 r1W3 BW3
    clear c6 f6 c0
    have c6 : W5.cell? ⟨w.heap.size, 6, none⟩ = some (.string ⟨#[]⟩) := (cell_of_row W5 _ 6 _ _ _ r0W5).trans rfl
    have f6 := frozen_of_row W5 w.heap.size 6 _ _ r0W5
    go_wp2_with fail
    refine (C3.out _).mono ?_
    rintro e w' ⟨rfl, rfl⟩
    go_upto_region 7 with fail
    rw [show evS ⟨#[]⟩ = ⟨#[]⟩ from rfl]
    have r0W6 : (W5.setCell ⟨w.heap.size, 6, none⟩ (.string ⟨#[]⟩)).heap[w.heap.size]? = some (.cells (celD k (clnV v) ⟨#[]⟩) 63 (0, 0)) := (heap_setCell_same W5 w.heap.size 6 _ 63 _ r0W5).trans rfl
    have r1W6 : (W5.setCell ⟨w.heap.size, 6, none⟩ (.string ⟨#[]⟩)).heap[w.heap.size + 1]? = some (.cells zD 63 (0, 0)) := (Below.heap_setCell W5 _ _ _ (by show w.heap.size + 1 ≠ w.heap.size; omega)).trans r1W5
    have BW6 := Lib.hid (BW5.out.trans ((ey_set W5 w.heap.size 6 (.string ⟨#[]⟩)).below BW5.out.size (Nat.le_refl _)))
    obtain ⟨W6, hW6⟩ : ∃ W6, W5.setCell ⟨w.heap.size, 6, none⟩ (.string ⟨#[]⟩) = W6 := ⟨_, rfl⟩
    rw [hW6] at r0W6 r1W6 BW6 ⊢
    clear hW6 r0W5 r1W5 BW5
    have K0 := Lib.hid r0W6
    have K1 := Lib.hid r1W6
    clear r0W6 r1W6 C2 C3 c6 f6
    go_wp2_with (first | refine ldP (k := 24) (run_loadVar_row _ w.heap.size 63 63 _ (0, 0) _ K0.out Tryz.underlying63 rfl (by kernel_rfl)) rfl (by kernel_rfl) rfl rfl ?_ | refine wpList_store_row rfl 63 _ _ rfl (w.heap.size + 1) _ rfl rfl 63 _ K1.out (by kernel_rfl) rfl (by kernel_rfl) ?_)
    exact cR1 rfl rfl (run_loadVar_row _ (w.heap.size + 1) 63 63 (celD k (clnV v) ⟨#[]⟩) (0, 0) _ (setRow_heap _ _ _ _ _ _ K1.out) Tryz.underlying63 rfl (by kernel_rfl)) rfl ⟨by rw [e1, e2], below_setRowK BW6.out (Nat.le_succ _) _⟩
  · skip
    have q1 : decide (k < 0) = false := decide_eq_false (by omega)
    have q2 : decide (5 ≤ k) = false := decide_eq_false (by omega)
    have q3 : decide (k < 3) = false := decide_eq_false (by omega)
    have e1 : endK k = k := if_neg (by omega)
    have e2 : endL k s = evS s := if_neg (by rw [e1]; omega)
    go_upto_region 6 with fail
    clear c0
    have c6 : W3.cell? ⟨w.heap.size, 6, none⟩ = some (.string s) := (cell_of_row W3 _ 6 _ _ _ r0W3).trans rfl
    have f6 := frozen_of_row W3 w.heap.size 6 _ _ r0W3
    go_wp2_with fail
    refine (C2.out _).mono ?_
    rintro e w' ⟨rfl, rfl⟩
    go_upto_region 7 with fail
    have r0W6 : (W3.setCell ⟨w.heap.size, 6, none⟩ (.string (evS s))).heap[w.heap.size]? = some (.cells (celD k (clnV v) (evS s)) 63 (0, 0)) := (heap_setCell_same W3 w.heap.size 6 _ 63 _ r0W3).trans rfl
    have r1W6 : (W3.setCell ⟨w.heap.size, 6, none⟩ (.string (evS s))).heap[w.heap.size + 1]? = some (.cells zD 63 (0, 0)) := (Below.heap_setCell W3 _ _ _ (by show w.heap.size + 1 ≠ w.heap.size; omega)).trans r1W3
    have BW6 := Lib.hid (BW3.out.trans ((ey_set W3 w.heap.size 6 (.string (evS s))).below BW3.out.size (Nat.le_refl _)))
    obtain ⟨W6, hW6⟩ : ∃ W6, W3.setCell ⟨w.heap.size, 6, none⟩ (.string (evS s)) = W6 := ⟨_, rfl⟩
    rw [hW6] at r0W6 r1W6 BW6 ⊢
    clear hW6 r0W3 r1W3 BW3
    have K0 := Lib.hid r0W6
    have K1 := Lib.hid r1W6
    clear r0W6 r1W6 C2 C3 c6 f6
    go_wp2_with (first | refine ldP (k := 24) (run_loadVar_row _ w.heap.size 63 63 _ (0, 0) _ K0.out Tryz.underlying63 rfl (by kernel_rfl)) rfl (by kernel_rfl) rfl rfl ?_ | refine wpList_store_row rfl 63 _ _ rfl (w.heap.size + 1) _ rfl rfl 63 _ K1.out (by kernel_rfl) rfl (by kernel_rfl) ?_)
    exact cR1 rfl rfl (run_loadVar_row _ (w.heap.size + 1) 63 63 (celD k (clnV v) (evS s)) (0, 0) _ (setRow_heap _ _ _ _ _ _ K1.out) Tryz.underlying63 rfl (by kernel_rfl)) rfl ⟨by rw [e1, e2], below_setRowK BW6.out (Nat.le_succ _) _⟩
end Go.Proofs.YtmlgjijjkikkhaaGreatDoor
