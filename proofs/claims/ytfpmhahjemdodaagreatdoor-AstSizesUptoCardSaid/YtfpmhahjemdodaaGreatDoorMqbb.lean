/-
  What stands first in the law's own expression. The printer's Builder told; the law's own expression written.
-/
import Derived.Test.YtfpmhahjemdodaaGreatDoorMqba
import Derived.Great.BuildSlice
import Derived.OwnWalk
import Derived.BigRegion
namespace Go.Proofs.YtfpmhahjemdodaaGreatDoor
open Go.RowKit Go.Shelf
attribute [local go_sem] stFl hmf
theorem results_c3 {fn : Func} {p q r : Tmp} {ty : TypeId} (h : fn.results = #[.cell p ty, .tmp q, .tmp r]) (tmps : Array Value) (P : Program) (w : World) (a : Addr) (v : Value) (ha : tmps.getD p undef = .pointer (some a)) (hl : (loadVar ty a).run P w = .ok v w) :
    (results fn tmps).run P w = .ok (.tuple #[v, tmps.getD q undef, tmps.getD r undef]) w := by
  simp only [results, h]
  simp [-Array.getD_eq_getD_getElem?, ha, asAddr, hl]
theorem ndR3 {fn : Func} {p q r : Tmp} {R : Ending → World → Prop} {a : Act} {w : World} {g : Nat} {c : Array Value} {x y : Value} (hG : w.heap[g]? = some (.cells c 25 (0, 0))) (hc : c.size = 7) (hr : fn.results = #[.cell p 25, .tmp q, .tmp r]) (ha : a.tmps.getD p undef = .pointer (some ⟨g, 0, none⟩)) (hx : a.tmps.getD q undef = x) (hy : a.tmps.getD r undef = y) (hd : a.defers = []) (hR : R (.returned (.tuple #[.agg c, x, y])) w) : bodyPost Tryz.prog fn R .ret a w := by
  subst hx hy
  exact bodyPost_ret (results_c3 hr _ _ _ _ _ ha (run_loadVar_row _ g 25 25 c (0, 0) _ hG Tryz.underlying25 rfl (by rw [hc]; kernel_rfl))) hd hR
theorem below_setRowN {B g : Nat} {a w : World} (h : Below B a w) (hg : B ≤ g) (c : Array Value) : Below B a (w.setRow g c) :=
  ⟨h.os, h.tape, h.output, by rw [size_setRow]; exact h.size, fun k hk => (setRow_other w g k c (by omega)).trans (h.block k hk)⟩
theorem row2 (W : World) (A : Obj) (o c : Array Value) (t : TypeId) : ((W.alloc A).alloc (.cells o t)).setRow (W.heap.size + 1) c = (W.alloc A).alloc (.cells c t) := by
  have e : (W.alloc A).heap.size = W.heap.size + 1 := by simp
  rw [← e, World.setRow_alloc_new]
set_option maxRecDepth 100000 in
set_option maxHeartbeats 2000000 in
theorem lead_17 {bF : Nat} {S : ByteArray} {w : World} (hb : bF < w.heap.size) (hF : w.heap[bF]? = some (.cells #[.int .i64 2, .string ⟨#[]⟩, .string S, .float .f64 0, .bool false, .slice none 0 0, .int .i64 0, .int .i64 5, .string ⟨#[]⟩, .string ⟨#[]⟩, .float .f64 4607182418800017408, .bool false, .slice none 0 0, .int .i64 0] 25 (0, 0))) :
    Calls Tryz.prog 174 #[.agg #[.int .i64 17, .string ⟨#[]⟩, .string ⟨#[]⟩, .float .f64 0, .bool false, .slice (some ⟨bF, 0, none⟩) 2 2, .int .i64 0]] w fun e w' => e = .returned (.tuple #[.agg #[.int .i64 2, .string ⟨#[]⟩, .string S, .float .f64 0, .bool false, .slice none 0 0, .int .i64 0], .int .i64 15, .bool true]) ∧ Below w.heap.size w w' := by
  have HB := Lib.hid (fun X Y : Obj => (b1 (w := w) X).alloc (by simp) Y)
  have HF := Lib.hid (fun X Y : Obj => (((b1 (w := w) X).alloc (by simp) Y).block bF hb).trans hF)
  clear hF hb
  go_enter Tryz.func174, Tryz.ntmps174
  go_upto_region 1 with fail
  obtain ⟨⟨c0, c1, c2, c3, c4, c5, c6⟩, -⟩ := cellsF (HF.out (.cells #[.int .i64 17, .string ⟨#[]⟩, .string ⟨#[]⟩, .float .f64 0, .bool false, .slice (some ⟨bF, 0, none⟩) 2 2, .int .i64 0] 25) (.cells #[.int .i64 0, .string ⟨#[]⟩, .string ⟨#[]⟩, .float .f64 0, .bool false, .slice none 0 0, .int .i64 0] 25))
  go_wp2_with (refine wpList_store_row rfl 25 _ _ rfl (w.heap.size + 1) _ rfl rfl 25 _ (new2 w _ _ _) (by kernel_rfl) rfl (by kernel_rfl) ?_; rw [row2])
  refine ndR3 (new2 w _ _ _) rfl rfl rfl rfl rfl rfl ⟨rfl, HB.out _ _⟩
set_option maxRecDepth 100000 in
set_option maxHeartbeats 2000000 in
theorem lead_2 (S : ByteArray) (w : World) :
    Calls Tryz.prog 174 #[.agg #[.int .i64 2, .string ⟨#[]⟩, .string S, .float .f64 0, .bool false, .slice none 0 0, .int .i64 0]] w fun e w' => e = .returned (.tuple #[.agg #[.int .i64 0, .string ⟨#[]⟩, .string ⟨#[]⟩, .float .f64 0, .bool false, .slice none 0 0, .int .i64 0], .int .i64 0, .bool false]) ∧ Below w.heap.size w w' := by
  have HB := Lib.hid (fun X Y : Obj => (b1 (w := w) X).alloc (by simp) Y)
  go_enter Tryz.func174, Tryz.ntmps174
  go_wp2_with (refine wpList_store_row rfl 25 _ _ rfl (w.heap.size + 1) _ rfl rfl 25 _ (new2 w _ _ _) (by kernel_rfl) rfl (by kernel_rfl) ?_; rw [row2])
  refine ndR3 (new2 w _ _ _) rfl rfl rfl rfl rfl rfl ⟨rfl, HB.out _ _⟩
set_option maxRecDepth 100000 in
set_option maxHeartbeats 2000000 in
theorem bare_17 {bF : Nat} {S : ByteArray} {w : World} (hb : bF < w.heap.size) (hF : w.heap[bF]? = some (.cells #[.int .i64 2, .string ⟨#[]⟩, .string S, .float .f64 0, .bool false, .slice none 0 0, .int .i64 0, .int .i64 5, .string ⟨#[]⟩, .string ⟨#[]⟩, .float .f64 4607182418800017408, .bool false, .slice none 0 0, .int .i64 0] 25 (0, 0))) :
    Calls Tryz.prog 128 #[.agg #[.int .i64 17, .string ⟨#[]⟩, .string ⟨#[]⟩, .float .f64 0, .bool false, .slice (some ⟨bF, 0, none⟩) 2 2, .int .i64 0]] w fun e w' => e = .returned (.bool false) ∧ Below w.heap.size w w' := by
  have C1 := Lib.hid (fun W (b : Below w.heap.size w W) => lead_17 (bF := bF) (S := S) (w := W) (Nat.lt_of_lt_of_le hb b.size) ((b.block bF hb).trans hF))
  have C2 := Lib.hid (fun W => lead_2 S W)
  have C3 := Lib.hid (fun W => reaches_2 ⟨#[]⟩ S 0 false (.slice none 0 0) 0 W)
  clear hb hF
  go_enter Tryz.func128, Tryz.ntmps128
  go_upto_region 1 with fail
  obtain ⟨W1, hW1⟩ : ∃ W1, w.alloc (.cells #[.int .i64 17, .string ⟨#[]⟩, .string ⟨#[]⟩, .float .f64 0, .bool false, .slice (some ⟨bF, 0, none⟩) 2 2, .int .i64 0] 25) = W1 := ⟨_, rfl⟩
  have HB1 := Lib.hid (show Below w.heap.size w W1 by rw [← hW1]; exact b1 _)
  have N1 := Lib.hid (show W1.heap[w.heap.size]? = some (.cells #[.int .i64 17, .string ⟨#[]⟩, .string ⟨#[]⟩, .float .f64 0, .bool false, .slice (some ⟨bF, 0, none⟩) 2 2, .int .i64 0] 25 (0, 0)) by rw [← hW1]; exact new1 w _ _)
  rw [hW1]
  clear hW1
  go_loopg [5] 2 (fun k _ wr => Below w.heap.size w wr ∧ ((k = 2 ∧ wr.heap[w.heap.size]? = some (.cells #[.int .i64 17, .string ⟨#[]⟩, .string ⟨#[]⟩, .float .f64 0, .bool false, .slice (some ⟨bF, 0, none⟩) 2 2, .int .i64 0] 25 (0, 0))) ∨ (k = 1 ∧ wr.heap[w.heap.size]? = some (.cells #[.int .i64 2, .string ⟨#[]⟩, .string S, .float .f64 0, .bool false, .slice none 0 0, .int .i64 0] 25 (0, 0)))))
  case atStart => exact ⟨HB1.out, .inl ⟨rfl, N1.out⟩⟩
  case round =>
    obtain ⟨hB, ⟨rfl, hN⟩ | ⟨rfl, hN⟩⟩ := hrel
    · have HB := Lib.hid hB
      have HN := Lib.hid hN
      obtain ⟨c0, c1, c2, c3, c4, c5, c6⟩ := cells7 hN
      clear hB hN HB1 N1 C2
      go_wp2_with fail
      refine (C1.out _ HB.out).mono ?_
      rintro e w2 ⟨rfl, b2⟩
      have HB2 := Lib.hid (HB.out.trans (b2.mono HB.out.size))
      have HL := Lib.hid (show w.heap.size < w2.heap.size from Nat.lt_of_lt_of_le (Array.getElem?_eq_some_iff.1 HN.out).1 b2.size)
      have HN2 := Lib.hid ((b2.block _ (Array.getElem?_eq_some_iff.1 HN.out).1).trans HN.out)
      clear b2 HB HN C1 c0 c1 c2 c3 c4 c5 c6
      go_upto_region 2 with (refine wpList_store_row rfl 25 _ _ rfl w2.heap.size _ rfl rfl 25 _ (heap_alloc_last w2 _) (by kernel_rfl) rfl (by kernel_rfl) ?_; rw [World.setRow_alloc_new])
      obtain ⟨W3, hW3⟩ : ∃ W, w2.alloc (.cells #[.int .i64 2, .string ⟨#[]⟩, .string S, .float .f64 0, .bool false, .slice none 0 0, .int .i64 0] 25) = W := ⟨_, rfl⟩
      have b3 : Below w2.heap.size w2 W3 := by rw [← hW3]; exact b1 _
      have n3 : W3.heap[w2.heap.size]? = some (.cells #[.int .i64 2, .string ⟨#[]⟩, .string S, .float .f64 0, .bool false, .slice none 0 0, .int .i64 0] 25 (0, 0)) := by rw [← hW3]; exact new1 w2 _ _
      have HB3 := Lib.hid (HB2.out.trans (b3.mono HB2.out.size))
      have HN3 := Lib.hid ((b3.block _ HL.out).trans HN2.out)
      have HX3 := Lib.hid n3
      rw [hW3]
      clear hW3 b3 HB2 HN2
      obtain ⟨c0, c1, c2, c3, c4, c5, c6⟩ := cells7 n3
      clear n3
      go_wp2_with fail
      refine (C3.out _).mono ?_
      rintro e w4 ⟨rfl, b4⟩
      have HB4 := Lib.hid (HB3.out.trans (b4.mono HB3.out.size))
      have HN4 := Lib.hid ((b4.block _ (Array.getElem?_eq_some_iff.1 HN3.out).1).trans HN3.out)
      have n4 := (b4.block _ (Array.getElem?_eq_some_iff.1 HX3.out).1).trans HX3.out
      clear b4 HB3 HN3 HX3 c0 c1 c2 c3 c4 c5 c6 C3
      obtain ⟨c0, c1, c2, c3, c4, c5, c6⟩ := cells7 n4
      clear n4
      go_wp2_with (refine wpList_store_row rfl 25 _ _ rfl w.heap.size _ rfl rfl 25 _ HN4.out (by kernel_rfl) rfl (by kernel_rfl) ?_)
      clear c0 c1 c2 c3 c4 c5 c6
      go_roundg 1
      case rel => exact ⟨below_setRowN HB4.out (Nat.le_refl _) _, .inr ⟨rfl, setRow_heap _ _ _ _ _ _ HN4.out⟩⟩
      case measure => omega
    · have HB := Lib.hid hB
      have HN := Lib.hid hN
      obtain ⟨c0, c1, c2, c3, c4, c5, c6⟩ := cells7 hN
      clear hB hN HB1 N1 C1 C3
      go_wp2_with fail
      refine (C2.out _).mono ?_
      rintro e w2 ⟨rfl, b2⟩
      have HB2 := Lib.hid (HB.out.trans (b2.mono HB.out.size))
      have HL := Lib.hid (show w.heap.size < w2.heap.size from Nat.lt_of_lt_of_le (Array.getElem?_eq_some_iff.1 HN.out).1 b2.size)
      have HN2 := Lib.hid ((b2.block _ (Array.getElem?_eq_some_iff.1 HN.out).1).trans HN.out)
      clear b2 HB HN C2 c0 c1 c2 c3 c4 c5 c6
      go_upto_region 2 with (refine wpList_store_row rfl 25 _ _ rfl w2.heap.size _ rfl rfl 25 _ (heap_alloc_last w2 _) (by kernel_rfl) rfl (by kernel_rfl) ?_; rw [World.setRow_alloc_new])
      have HB3 := Lib.hid (fun X => (HB2.out.alloc (Nat.le_of_lt HL.out) X))
      have c0 := fun X => (cell_of_row (w2.alloc X) w.heap.size 0 _ _ _ (((b1 X).block _ HL.out).trans HN2.out)).trans rfl
      clear HN2 HB2 HL
      go_wp2
      go_ret
      exact ⟨rfl, HB3.out _⟩
end Go.Proofs.YtfpmhahjemdodaaGreatDoor
namespace Go.Proofs.YtfpmhahjemdodaaGreatDoor
open Go.RowKit Go.Shelf
attribute [local go_sem] stFl hmf
set_option maxRecDepth 100000 in
set_option maxHeartbeats 2000000 in
theorem bstring_s {W0 : World} {g : Nat} (l : List UInt8) {w : World} (h : PS W0 g (Lib.byteCells l) w) (h0 : l ≠ []) :
    Calls Tryz.prog 20 #[.pointer (some ⟨g, 0, none⟩)] w fun e w' => e = .returned (.string ⟨l.toArray⟩) ∧ Below (g + 2) w w' := by
  obtain ⟨-, -, p, v, -, hg, hown⟩ := h.p
  have hl0 : l.length ≠ 0 := by simpa using h0
  rw [Lib.byteCells_length] at hown
  obtain ⟨q, cap, cur, rfl, hbq, hq, hnc, hcm, hcs, htake⟩ : ∃ q cap cur, v = .slice (some ⟨q, 0, none⟩) l.length cap ∧ g + 2 ≤ q ∧ w.heap[q]? = some (.cells cur 5 (0, 0)) ∧ l.length ≤ cap ∧ cap ≤ maxLen ∧ cur.size = cap * 1 ∧ cur.toList.take (l.length * 1) = Lib.byteCells l := by
    rcases hown.2 with ⟨_, hz⟩ | ⟨q, cap, cur, hv, r⟩
    · exact absurd hz hl0
    · exact ⟨q, cap, cur, hv, r⟩
  have c1 : w.drew.cell? ⟨g, 1, none⟩ = some (.slice (some ⟨q, 0, none⟩) l.length cap) := (cell_of_row w.drew g 1 _ _ _ hg).trans rfl
  have hSD : (Builtin.unsafeSliceData_ #[46] 66 #[.slice (some ⟨q, 0, none⟩) l.length cap]).run Tryz.prog w.drew = .ok (.pointer (some ⟨q, 0, none⟩)) w.drew :=
    Lib.run_unsafeSliceData_row _ _ _ _ _ _ (by omega)
  have hUS : (Builtin.unsafeString_ #[66, 3] 9 #[.pointer (some ⟨q, 0, none⟩), .int .i64 l.length]).run Tryz.prog w.drew = .ok (.string ⟨l.toArray⟩) (w.drew.freeze ⟨q, 0, none⟩ l.length) := by
    refine Lib.run_unsafeString_row w.drew 66 3 9 5 Tryz.underlying66 (by kernel_rfl) q cur.size (by have hg' : w.drew.heap[q]? = some (.cells cur 5 (0, 0)) := hq; simp [World.shape?, hg']) l h0 (by omega) (by unfold maxLen at hcm; omega) ?_
    intro j x hx
    have := hown.cells (g := q) rfl j (.int .u8 x.toNat) (by simp [Lib.byteCells, hx])
    exact this
  clear hcs htake hown hnc hcm hq hg h
  go_enter Tryz.func20, Tryz.ntmps20
  go_wp2
  go_region
  all_goals (go_wp2; go_ret; exact ⟨rfl, Lib.below_freeze (Below.drew (Below.refl (g + 2) w)) (p := ⟨q, 0, none⟩) hbq _⟩)
set_option maxRecDepth 100000 in
set_option maxHeartbeats 2000000 in
/-- The one argument within its parentheses. -/
theorem arguments_s {W0 : World} {g bF : Nat} {bs bs' : List Value} {w : World} (h : PS W0 g bs w) (hn : bs.length ≤ 1000) (hn' : bs'.length ≤ 1000)
    (hf : ∀ W, PS W0 g (bs ++ Lib.strCells ⟨#[40]⟩) W → Calls Tryz.prog 116 #[.pointer (some ⟨g, 0, none⟩), .slice (some ⟨bF, 7, none⟩) 1 1] W fun e w' => e = .returned (.tuple #[]) ∧ PS W0 g bs' w' ∧ Kb (g + 2) g W w') :
    Calls Tryz.prog 123 #[.pointer (some ⟨g, 0, none⟩), .slice (some ⟨bF, 7, none⟩) 1 1] w fun e w' => e = .returned (.tuple #[]) ∧ PS W0 g (bs' ++ Lib.strCells ⟨#[41]⟩) w' ∧ Kb (g + 2) g w w' := by
  have CL := Lib.hid hf
  have HN := Lib.hid hn
  have HN' := Lib.hid hn'
  clear hf hn hn'
  have CA := Lib.hid (fun b1 b2 W (h : PS W0 g (bs ++ Lib.strCells ⟨#[40]⟩) W) (c1 : W.cell? ⟨b1, 0, none⟩ = some (.pointer (some ⟨g, 0, none⟩))) (c2 : W.cell? ⟨b2, 0, none⟩ = some (.slice (some ⟨bF, 7, none⟩) 1 1)) => show Calls Tryz.prog 170 #[.pointer (some ⟨b1, 0, none⟩), .pointer (some ⟨b2, 0, none⟩)] W fun e w' => e = .returned (.tuple #[]) ∧ PS W0 g bs' w' ∧ Kb (g + 2) g W w' from by
    have H := Lib.hid h
    clear h
    go_enter Tryz.func170, Tryz.ntmps170
    go_wp2_with fail
    refine (CL.out _ H.out).mono ?_
    rintro e w4 ⟨rfl, h4, k4⟩
    have H4 := Lib.hid h4
    have K4 := Lib.hid k4
    clear h4 k4 H c1 c2
    go_wp2
    go_end0
    exact ⟨rfl, H4.out, K4.out⟩)
  clear CL
  go_enter Tryz.func123, Tryz.ntmps123
  go_upto_region 1 with fail
  obtain ⟨W1, hW1⟩ : ∃ W1, (w.alloc (.cells #[.pointer (some ⟨g, 0, none⟩)] 42)).alloc (.cells #[.slice (some ⟨bF, 7, none⟩) 1 1] 23) = W1 := ⟨_, rfl⟩
  have hb : Below w.heap.size w W1 := by rw [← hW1]; exact (b1 _).alloc (by simp) _
  have n0 : W1.heap[w.heap.size]? = some (.cells #[.pointer (some ⟨g, 0, none⟩)] 42 (0, 0)) := by rw [← hW1]; exact ((b1 _).block _ (by simp)).trans (new1 w _ _)
  have n1 : W1.heap[w.heap.size + 1]? = some (.cells #[.slice (some ⟨bF, 7, none⟩) 1 1] 23 (0, 0)) := by rw [← hW1]; exact new2 w _ _ _
  have h1 := h.on hb
  have gl : g < w.heap.size := by have := h.p.le; omega
  have CW := Lib.hid (within_s (b1 := w.heap.size) (b2 := w.heap.size + 1) (bs' := bs') ⟨#[40]⟩ ⟨#[41]⟩ h1 (by have := HN.out; show bs.length + 1 ≤ 2097152; omega) (by have := HN'.out; show bs'.length + 1 ≤ 2097152; omega) (fun W hW k => by
    refine CA.out _ _ W hW ?_ ?_
    · exact (cell_of_row W _ 0 _ _ _ (k.oth _ _ n0 (by simp; omega) (by intro c fz h; cases h))).trans rfl
    · exact (cell_of_row W _ 0 _ _ _ (k.oth _ _ n1 (by simp; omega) (by intro c fz h; cases h))).trans rfl))
  have K1 := Lib.hid (h.kb hb)
  have c0 : W1.cell? ⟨w.heap.size, 0, none⟩ = some (.pointer (some ⟨g, 0, none⟩)) := (cell_of_row W1 _ 0 _ _ _ n0).trans rfl
  rw [hW1]
  clear hW1 hb n0 n1 h1 gl h CA
  go_wp2_with fail
  refine CW.out.mono ?_
  rintro e w4 ⟨rfl, h4, k4⟩
  have H4 := Lib.hid h4
  have K4 := Lib.hid (K1.out.trans k4)
  clear CW h4 k4 K1 c0
  go_wp2
  go_end0
  exact ⟨rfl, H4.out, K4.out⟩
set_option maxRecDepth 100000 in
set_option maxHeartbeats 2000000 in
/-- The law's own call. -/
theorem call_17 {W0 : World} {g bE bC bF : Nat} {S : ByteArray} {bs bs' : List Value} {w : World} (fx : Fx W0 g bE bC bF S) (h : PS W0 g bs w) {bs1 : List Value}
    (hf : ∀ W, PS W0 g bs W → Calls Tryz.prog 118 #[.pointer (some ⟨g, 0, none⟩), .agg #[.int .i64 2, .string ⟨#[]⟩, .string S, .float .f64 0, .bool false, .slice none 0 0, .int .i64 0], .int .i64 15] W fun e w' => e = .returned (.tuple #[]) ∧ PS W0 g bs1 w' ∧ Kb (g + 2) g W w')
    (ha : ∀ W, PS W0 g bs1 W → Calls Tryz.prog 123 #[.pointer (some ⟨g, 0, none⟩), .slice (some ⟨bF, 7, none⟩) 1 1] W fun e w' => e = .returned (.tuple #[]) ∧ PS W0 g bs' w' ∧ Kb (g + 2) g W w') :
    Calls Tryz.prog 53 #[.pointer (some ⟨g, 0, none⟩), .agg #[.int .i64 17, .string ⟨#[]⟩, .string ⟨#[]⟩, .float .f64 0, .bool false, .slice (some ⟨bF, 0, none⟩) 2 2, .int .i64 0]] w fun e w' => e = .returned (.tuple #[]) ∧ PS W0 g bs' w' ∧ Kb (g + 2) g w w' := by
  have C1 := Lib.hid hf
  have C2 := Lib.hid ha
  clear hf ha
  go_enter Tryz.func53, Tryz.ntmps53
  go_upto_region 1 with fail
  obtain ⟨W1, hW1⟩ : ∃ W1, w.alloc (.cells #[.int .i64 17, .string ⟨#[]⟩, .string ⟨#[]⟩, .float .f64 0, .bool false, .slice (some ⟨bF, 0, none⟩) 2 2, .int .i64 0] 25) = W1 := ⟨_, rfl⟩
  have hb : Below w.heap.size w W1 := by rw [← hW1]; exact b1 _
  have n1 : W1.heap[w.heap.size]? = some (.cells #[.int .i64 17, .string ⟨#[]⟩, .string ⟨#[]⟩, .float .f64 0, .bool false, .slice (some ⟨bF, 0, none⟩) 2 2, .int .i64 0] 25 (0, 0)) := by rw [← hW1]; exact new1 w _ _
  have h1 := h.on hb
  have GL := Lib.hid (show g < w.heap.size by have := h.p.le; omega)
  have H1 := Lib.hid h1
  have K1 := Lib.hid (h.kb hb)
  have N1 := Lib.hid n1
  obtain ⟨⟨f0, f1, f2, f3, f4, f5, f6⟩, -⟩ := cellsF (h1.cf fx)
  have c5 := (cells7 n1).2.2.2.2.2.1
  rw [hW1]
  clear hW1 hb h h1 n1
  go_wp2_with fail
  refine (C1.out _ H1.out).mono ?_
  rintro e w2 ⟨rfl, h2, k2⟩
  have H2 := Lib.hid h2
  have K2 := Lib.hid (K1.out.trans k2)
  have c5' := (cells7 (k2.oth _ _ N1.out (by have := GL.out; simp; omega) (by intro c fz h; cases h))).2.2.2.2.2.1
  clear h2 k2 H1 K1 N1 C1 c5 f0 f1 f2 f3 f4 f5 f6 GL
  go_wp2_with fail
  refine (C2.out _ H2.out).mono ?_
  rintro e w4 ⟨rfl, h4, k4⟩
  have H4 := Lib.hid h4
  have K4 := Lib.hid (K2.out.trans k4)
  clear C2 h4 k4 H2 K2 c5'
  go_wp2
  go_end0
  exact ⟨rfl, H4.out, K4.out⟩
set_option maxRecDepth 100000 in
set_option maxHeartbeats 2000000 in
/-- The law's own statement. -/
theorem plain_s {W0 : World} {g bE bC bF : Nat} {S : ByteArray} {bs bs' : List Value} {w : World} (fx : Fx W0 g bE bC bF S) (h : PS W0 g bs w) (hn' : bs'.length ≤ 1000)
    (hf : ∀ W, PS W0 g bs W → Calls Tryz.prog 118 #[.pointer (some ⟨g, 0, none⟩), .agg #[.int .i64 17, .string ⟨#[]⟩, .string ⟨#[]⟩, .float .f64 0, .bool false, .slice (some ⟨bF, 0, none⟩) 2 2, .int .i64 0], .int .i64 0] W fun e w' => e = .returned (.tuple #[]) ∧ PS W0 g bs' w' ∧ Kb (g + 2) g W w') :
    Calls Tryz.prog 66 #[.pointer (some ⟨g, 0, none⟩), .agg #[.int .i64 47, .string ⟨#[]⟩, .string ⟨#[]⟩, .float .f64 0, .bool false, .slice (some ⟨bC, 0, none⟩) 1 1, .int .i64 0]] w fun e w' => e = .returned (.tuple #[]) ∧ PS W0 g (bs' ++ Lib.strCells ⟨#[59, 10]⟩) w' ∧ Kb (g + 2) g w w' := by
  have C1 := Lib.hid hf
  have C2 := Lib.hid (fun W (h : PS W0 g bs' W) => write_s ⟨#[59, 10]⟩ h (by show bs'.length + 2 ≤ 2097152; omega))
  have CB := Lib.hid (fun W (h : PS W0 g bs W) => bare_17 (bF := bF) (S := S) (w := W) (by have := h.p.le; have := fx.f; omega) (h.cf fx))
  have FX := Lib.hid fx
  clear hf hn' fx
  go_enter Tryz.func66, Tryz.ntmps66
  go_upto_region 1 with fail
  obtain ⟨W1, hW1⟩ : ∃ W1, (w.alloc (.cells #[.pointer (some ⟨g, 0, none⟩)] 42)).alloc (.cells #[.int .i64 47, .string ⟨#[]⟩, .string ⟨#[]⟩, .float .f64 0, .bool false, .slice (some ⟨bC, 0, none⟩) 1 1, .int .i64 0] 25) = W1 := ⟨_, rfl⟩
  have hb : Below w.heap.size w W1 := by rw [← hW1]; exact (b1 _).alloc (by simp) _
  have n0 : W1.heap[w.heap.size]? = some (.cells #[.pointer (some ⟨g, 0, none⟩)] 42 (0, 0)) := by rw [← hW1]; exact ((b1 _).block _ (by simp)).trans (new1 w _ _)
  have n1 : W1.heap[w.heap.size + 1]? = some (.cells #[.int .i64 47, .string ⟨#[]⟩, .string ⟨#[]⟩, .float .f64 0, .bool false, .slice (some ⟨bC, 0, none⟩) 1 1, .int .i64 0] 25 (0, 0)) := by rw [← hW1]; exact new2 w _ _ _
  have h1 := h.on hb
  have GL := Lib.hid (show g < w.heap.size by have := h.p.le; omega)
  have SZ := Lib.hid (show W1.heap.size = w.heap.size + 2 by rw [← hW1]; simp)
  have H1 := Lib.hid h1
  have K1 := Lib.hid (h.kb hb)
  have N0 := Lib.hid n0
  have N1 := Lib.hid n1
  obtain ⟨f0, f1, f2, f3, f4, f5, f6⟩ := cells7 (h1.cc FX.out)
  have c5 := (cells7 n1).2.2.2.2.2.1
  rw [hW1]
  clear hW1 hb h h1 n1 n0
  go_wp2_with fail
  refine (CB.out _ H1.out).mono ?_
  rintro e w2 ⟨rfl, b2⟩
  have h2 := H1.out.on b2
  have H2 := Lib.hid h2
  have K2 := Lib.hid (K1.out.trans (H1.out.kb b2))
  have m0 := (b2.block _ (by have := SZ.out; omega)).trans N0.out
  have m1 := (b2.block _ (by have := SZ.out; omega)).trans N1.out
  have M0 := Lib.hid m0
  clear b2 H1 K1 N0 N1 SZ CB f0 f1 f2 f3 f4 f5 f6 c5
  obtain ⟨f0, f1, f2, f3, f4, f5, f6⟩ := cells7 (h2.cc FX.out)
  have c5 := (cells7 m1).2.2.2.2.2.1
  have c0 : w2.cell? ⟨w.heap.size, 0, none⟩ = some (.pointer (some ⟨g, 0, none⟩)) := (cell_of_row w2 _ 0 _ _ _ m0).trans rfl
  clear m0 m1 h2
  go_upto_region 3 with fail
  refine wp_region_still_tail 5 (by kernel_rfl) (by kernel_rfl) ?_
  simp only [List.take_succ_cons, List.take_zero, List.drop_succ_cons, List.drop_zero]
  repeat still_step
  refine wpStill_nil ?_
  go_wp2_with fail
  refine (C1.out _ (H2.out.drewN 1)).mono ?_
  rintro e w3 ⟨rfl, h3, k3⟩
  have H3 := Lib.hid h3
  have K3 := Lib.hid ((K2.out.drewN 1).trans k3)
  have c0' : w3.cell? ⟨w.heap.size, 0, none⟩ = some (.pointer (some ⟨g, 0, none⟩)) := (cell_of_row w3 _ 0 _ _ _ (k3.oth _ _ (show (w2.drewN 1).heap[w.heap.size]? = _ from M0.out) (by have := GL.out; simp; omega) (by intro c fz h; cases h))).trans rfl
  clear h3 k3 H2 K2 M0 GL C1 f0 f1 f2 f3 f4 f5 f6 c5 c0 FX
  go_wp2_with fail
  refine (C2.out _ H3.out).mono ?_
  rintro e w4 ⟨rfl, h4, k4⟩
  have H4 := Lib.hid h4
  have K4 := Lib.hid (K3.out.trans k4)
  clear C2 h4 k4 H3 K3 c0'
  go_wp2
  go_end0
  exact ⟨rfl, H4.out, K4.out⟩
set_option maxRecDepth 100000 in
set_option maxHeartbeats 2000000 in
/-- The law's own program. -/
theorem statements_s {W0 : World} {g bE bC bF : Nat} {S : ByteArray} {bs bs' : List Value} {w : World} (fx : Fx W0 g bE bC bF S) (h : PS W0 g bs w)
    (hf : ∀ W, PS W0 g bs W → Calls Tryz.prog 18 #[.pointer (some ⟨g, 0, none⟩), .agg #[.int .i64 47, .string ⟨#[]⟩, .string ⟨#[]⟩, .float .f64 0, .bool false, .slice (some ⟨bC, 0, none⟩) 1 1, .int .i64 0]] W fun e w' => e = .returned (.tuple #[]) ∧ PS W0 g bs' w' ∧ Kb (g + 2) g W w') :
    Calls Tryz.prog 60 #[.pointer (some ⟨g, 0, none⟩), .agg #[.int .i64 40, .string ⟨#[]⟩, .string ⟨#[]⟩, .float .f64 0, .bool false, .slice (some ⟨bE, 0, none⟩) 1 1, .int .i64 0]] w fun e w' => e = .returned (.tuple #[]) ∧ PS W0 g bs' w' ∧ Kb (g + 2) g w w' := by
  have C := Lib.hid hf
  have HF := Lib.hid fx
  clear hf fx
  go_enter Tryz.func60, Tryz.ntmps60
  go_upto_region 1 with fail
  obtain ⟨W1, hW1⟩ : ∃ W1, w.alloc (.cells #[.int .i64 40, .string ⟨#[]⟩, .string ⟨#[]⟩, .float .f64 0, .bool false, .slice (some ⟨bE, 0, none⟩) 1 1, .int .i64 0] 25) = W1 := ⟨_, rfl⟩
  have hb : Below w.heap.size w W1 := by rw [← hW1]; exact b1 _
  have n1 : W1.heap[w.heap.size]? = some (.cells #[.int .i64 40, .string ⟨#[]⟩, .string ⟨#[]⟩, .float .f64 0, .bool false, .slice (some ⟨bE, 0, none⟩) 1 1, .int .i64 0] 25 (0, 0)) := by rw [← hW1]; exact new1 w _ _
  have H1 := Lib.hid (h.on hb)
  have K1 := Lib.hid (h.kb hb)
  have c5 := (cells7 n1).2.2.2.2.2.1
  rw [hW1]
  clear hW1 hb h n1
  go_wp2
  go_loopw [9] (fun iv wr => (iv = .int .i64 0 ∧ wr = W1) ∨ (iv = .int .i64 1 ∧ PS W0 g bs' wr ∧ Kb (g + 2) g w wr)) (fun iv _ => 1 - (intOf iv).toNat)
  case atStart => exact .inl ⟨rfl, rfl⟩
  case round =>
    rcases hrel with ⟨rfl, rfl⟩ | ⟨rfl, hp, hk⟩
    · obtain ⟨c0, c1, c2, c3, c4, c5, c6⟩ := cells7 (H1.out.ce HF.out)
      go_upto_region 4 with fail
      obtain ⟨W2, hW2⟩ : ∃ W2, wr.alloc (.cells #[.int .i64 47, .string ⟨#[]⟩, .string ⟨#[]⟩, .float .f64 0, .bool false, .slice (some ⟨bC, 0, none⟩) 1 1, .int .i64 0] 25) = W2 := ⟨_, rfl⟩
      have hb : Below wr.heap.size wr W2 := by rw [← hW2]; exact b1 _
      have n1 : W2.heap[wr.heap.size]? = some (.cells #[.int .i64 47, .string ⟨#[]⟩, .string ⟨#[]⟩, .float .f64 0, .bool false, .slice (some ⟨bC, 0, none⟩) 1 1, .int .i64 0] 25 (0, 0)) := by rw [← hW2]; exact new1 wr _ _
      have H2 := Lib.hid (H1.out.on hb)
      have K2 := Lib.hid (K1.out.trans (H1.out.kb hb))
      clear c0 c1 c2 c3 c4 c5 c6
      obtain ⟨c0, c1, c2, c3, c4, c5, c6⟩ := cells7 n1
      rw [hW2]
      clear hW2 hb n1 H1 K1
      go_wp2_with fail
      refine (C.out _ H2.out).mono ?_
      rintro e w4 ⟨rfl, h4, k4⟩
      have H4 := Lib.hid h4
      have K4 := Lib.hid (K2.out.trans k4)
      clear C h4 k4 H2 K2 c0 c1 c2 c3 c4 c5 c6
      go_wp2
      go_roundw
      case rel => exact .inr ⟨by go_num, H4.out, K4.out⟩
      case measure => simp [intOf]
    · have H4 := Lib.hid hp
      have K4 := Lib.hid hk
      clear hp hk C
      go_wp2
      go_end0
      exact ⟨rfl, H4.out, K4.out⟩
end Go.Proofs.YtfpmhahjemdodaaGreatDoor
