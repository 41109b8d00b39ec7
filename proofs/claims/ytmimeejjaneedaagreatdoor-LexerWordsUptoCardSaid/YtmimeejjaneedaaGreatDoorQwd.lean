/-
  Merged texts (Tc, Td, Te, Tf, Tg, Th, Ti, Tj, Tk, Tl, Tm, Tn, Tp, Tr, Ts, Tq, Nz, Ni, Mb, No, Np, Nq, Nm, Nn, Nr, Ne).
-/
import Derived.Test.YtmimeejjaneedaaGreatDoorQwc
set_option maxRecDepth 100000
set_option maxHeartbeats 40000000
namespace Go.Proofs.YtmimeejjaneedaaGreatDoor
section
open Go.RowKit
theorem below_setRow' {B g : Nat} {a w : World} (h : Below B a w) (hg : B ≤ g) (c : Array Value) : Below B a (w.setRow g c) :=
 ⟨h.os, h.tape, h.output, by rw [setRow_size]; exact h.size, fun k hk => (setRow_other w g k c (by omega)).trans (h.block k hk)⟩
theorem results_cell_two {fn : Func} {p t u : Tmp} {ty : TypeId} (h : fn.results = #[.cell p ty, .tmp t, .tmp u]) (tmps : Array Value) (P : Program) (w : World) (a : Addr) (v : Value) (ha : tmps.getD p undef = .pointer (some a)) (hl : (loadVar ty a).run P w = .ok v w) :
  (results fn tmps).run P w = .ok (.tuple #[v, tmps.getD t undef, tmps.getD u undef]) w := by
 simp only [results, h]
 simp [-Array.getD_eq_getD_getElem?, ha, asAddr, hl]
def Rc (w : World) (g : Nat) (a b c : Value) : Prop := w.heap[g]? = some (.cells #[a, b, c] 146 (0, 0))
theorem Rc.cells {w : World} {g : Nat} {a b c : Value} (h : Rc w g a b c) : w.cell? ⟨g, 0, none⟩ = some a ∧ w.cell? ⟨g, 1, none⟩ = some b ∧ w.cell? ⟨g, 2, none⟩ = some c ∧ (∀ k, w.frozen? ⟨g, k, none⟩ = false) := by
 unfold Rc at h
 refine ⟨by simp [World.cell?, h], by simp [World.cell?, h], by simp [World.cell?, h], fun k => by simp [World.frozen?, h]⟩
theorem Rc.below {w w' : World} {g B : Nat} {a b c : Value} (h : Rc w g a b c) (hb : Below B w w') (hg : g < B) : Rc w' g a b c := (hb.block g hg).trans h
theorem Rc.set0 {w : World} {g : Nat} {a b c : Value} (h : Rc w g a b c) (v : Value) : Rc (w.setCell ⟨g, 0, none⟩ v) g v b c := by
 have := heap_setCell_same w g 0 _ _ v h
 exact this
theorem Rc.set1 {w : World} {g : Nat} {a b c : Value} (h : Rc w g a b c) (v : Value) : Rc (w.setCell ⟨g, 1, none⟩ v) g a v c := by
 have := heap_setCell_same w g 1 _ _ v h
 exact this
theorem Rc.set2 {w : World} {g : Nat} {a b c : Value} (h : Rc w g a b c) (v : Value) : Rc (w.setCell ⟨g, 2, none⟩ v) g a b v := by
 have := heap_setCell_same w g 2 _ _ v h
 exact this
theorem Rc.other {w : World} {g k i : Nat} {a b c v : Value} (h : Rc w g a b c) (hk : g ≠ k) : Rc (w.setCell ⟨k, i, none⟩ v) g a b c := (heap_setCell_other w ⟨k, i, none⟩ g v hk).trans h
def zs : Value := .string ⟨#[]⟩
structure Rd (W w : World) (a b c : Value) : Prop where
 lo : Rc w W.heap.size zs zs (.int .i64 0)
 hi : Rc w (W.heap.size + 1) a b c
 bw : Below W.heap.size W w
 sz : W.heap.size + 2 ≤ w.heap.size
theorem Rd.start (W : World) : Rd W ((W.alloc (.cells #[zs, zs, .int .i64 0] 146)).alloc (.cells #[zs, zs, .int .i64 0] 146)) zs zs (.int .i64 0) := by
 obtain ⟨V, hV⟩ : ∃ V, W.alloc (.cells #[zs, zs, .int .i64 0] 146) = V := ⟨_, rfl⟩
 have hs : V.heap.size = W.heap.size + 1 := by rw [← hV]; simp
 have h1 : Rc V W.heap.size zs zs (.int .i64 0) := by rw [← hV]; exact heap_alloc_last W _
 have b1 : Below W.heap.size W V := by rw [← hV]; exact (Below.refl _ _).alloc (Nat.le_refl _) _
 have b2 : Below V.heap.size V (V.alloc (.cells #[zs, zs, .int .i64 0] 146)) := (Below.refl _ _).alloc (Nat.le_refl _) _
 rw [hV]
 refine ⟨h1.below b2 (by omega), ?_, below_le b1 b2, by simp; omega⟩
 rw [← hs]
 exact heap_alloc_last V _
theorem Rd.step {W w w' : World} {a b c : Value} (h : Rd W w a b c) (hb : Below w.heap.size w w') : Rd W w' a b c :=
 ⟨h.lo.below hb (by have := h.sz; omega), h.hi.below hb (by have := h.sz; omega), below_le h.bw hb, Nat.le_trans h.sz hb.size⟩
theorem Rd.put0 {W w : World} {a b c : Value} (h : Rd W w a b c) (v : Value) : Rd W (w.setCell ⟨W.heap.size + 1, 0, none⟩ v) v b c :=
 ⟨h.lo.other (by omega), h.hi.set0 v, h.bw.setCell (by show W.heap.size ≤ W.heap.size + 1; omega) _, by simp only [World.setCell, Array.size_modify]; exact h.sz⟩
theorem Rd.put1 {W w : World} {a b c : Value} (h : Rd W w a b c) (v : Value) : Rd W (w.setCell ⟨W.heap.size + 1, 1, none⟩ v) a v c :=
 ⟨h.lo.other (by omega), h.hi.set1 v, h.bw.setCell (by show W.heap.size ≤ W.heap.size + 1; omega) _, by simp only [World.setCell, Array.size_modify]; exact h.sz⟩
theorem Rd.put2 {W w : World} {a b c : Value} (h : Rd W w a b c) (v : Value) : Rd W (w.setCell ⟨W.heap.size + 1, 2, none⟩ v) a b v :=
 ⟨h.lo.other (by omega), h.hi.set2 v, h.bw.setCell (by show W.heap.size ≤ W.heap.size + 1; omega) _, by simp only [World.setCell, Array.size_modify]; exact h.sz⟩
theorem tcutDecimal_none (s : ByteArray) (w : World) (S1 : ByteArray)
   (C1 : Hid (∀ W, Ct 254 #[.string s, .int .i64 10] (.tuple #[.string ⟨#[]⟩, .string S1]) W))
   (C2 : Hid (∀ W, Cq 257 #[.string S1, .string ⟨#[46]⟩] (.tuple #[.string S1, .bool false]) W)) :
    Cp 199 #[.string s] w (fun e w' => e = .returned (.tuple #[.agg #[.string ⟨#[]⟩, .string ⟨#[]⟩, .int .i64 0], .string ⟨#[]⟩, .bool false]) ∧ Below w.heap.size w w') := by
  have R0 := Lib.hid (Rd.start w)
  go_enter Tryz.func199, Tryz.ntmps199
  go_wp2_with fail
  refine (C1.out _).mono ?_
  rintro e w1 ⟨rfl, hb1⟩
  have R1 := Lib.hid (R0.out.step hb1)
  obtain ⟨c0, c1, c2, fz⟩ := R1.out.hi.cells
  have f0 := fz 0
  clear fz hb1
  go_wp2_with fail
  refine (C2.out _).mono ?_
  rintro e w2 ⟨rfl, rfl⟩
  have R2 := Lib.hid (R1.out.put0 (.string ⟨#[]⟩))
  generalize w1.setCell ⟨w.heap.size + 1, 0, none⟩ (.string ⟨#[]⟩) = w2 at *
  clear c0 c1 c2 f0
  obtain ⟨c0, c1, c2, fz⟩ := R2.out.hi.cells
  have f0 := fz 0
  clear fz
  unfold zs at c1
  have HG := Lib.hid (show w2.heap[w.heap.size]? = some (.cells #[.string ⟨#[]⟩, .string ⟨#[]⟩, .int .i64 0] 146 (0, 0)) from R2.out.lo)
  have HB := Lib.hid R2.out.bw
  go_wp2_with (first | (refine wpList_store_row rfl 146 _ _ rfl w.heap.size #[.string ⟨#[]⟩, .string ⟨#[]⟩, .int .i64 0] rfl rfl 146 #[.string ⟨#[]⟩, .string ⟨#[]⟩, .int .i64 0] HG.out (by first | kernel_rfl | rfl) rfl (by first | kernel_rfl | rfl) ?_))
  exact bodyPost_ret (results_cell_two rfl _ _ _ _ _ rfl (run_loadVar_row _ w.heap.size 146 146 _ (0, 0) _ (setRow_heap _ _ _ _ _ _ HG.out) Tryz.underlying146 rfl (by first | kernel_rfl | rfl))) rfl ⟨rfl, below_setRow' HB.out (Nat.le_refl _) _⟩
theorem tcutDecimal_a_false (s : ByteArray) (w : World) (Wt S1 t0 Rt : ByteArray) (X : Int) (n2 : Wt.toList.isEmpty = false)
   (C1 : Hid (∀ W, Ct 254 #[.string s, .int .i64 10] (.tuple #[.string Wt, .string S1]) W))
   (C2 : Hid (∀ W, Cq 257 #[.string S1, .string ⟨#[46]⟩] (.tuple #[.string t0, .bool false]) W))
   (C3 : Hid (∀ W, Ct 258 #[.string S1] (.tuple #[.int .i64 X, .string Rt, .bool false]) W)) :
    Cp 199 #[.string s] w (fun e w' => e = .returned (.tuple #[.agg #[.string Wt, .string ⟨#[]⟩, .int .i64 0], .string S1, .bool true]) ∧ Below w.heap.size w w') := by
  have R0 := Lib.hid (Rd.start w)
  go_enter Tryz.func199, Tryz.ntmps199
  go_wp2_with fail
  refine (C1.out _).mono ?_
  rintro e w1 ⟨rfl, hb1⟩
  have R1 := Lib.hid (R0.out.step hb1)
  clear hb1
  obtain ⟨c0, c1, c2, fz⟩ := R1.out.hi.cells
  have f0 := fz 0
  have f1 := fz 1
  have f2 := fz 2
  clear fz
  try unfold zs at c0
  try unfold zs at c1
  go_wp2_with fail
  refine (C2.out _).mono ?_
  rintro e w2 ⟨rfl, rfl⟩
  have R2 := Lib.hid (R1.out.put0 (.string Wt))
  generalize w1.setCell ⟨w.heap.size + 1, 0, none⟩ (.string Wt) = w2 at *
  clear c0 c1 c2 f0 f1 f2
  obtain ⟨c0, c1, c2, fz⟩ := R2.out.hi.cells
  have f0 := fz 0
  have f1 := fz 1
  have f2 := fz 2
  clear fz
  try unfold zs at c0
  try unfold zs at c1
  go_wp2_with fail
  refine (C3.out _).mono ?_
  rintro e w3 ⟨rfl, hb3⟩
  have R3 := Lib.hid (R2.out.step hb3)
  clear hb3 c0 c1 c2 f0 f1 f2
  obtain ⟨c0, c1, c2, fz⟩ := R3.out.hi.cells
  have f0 := fz 0
  have f1 := fz 1
  have f2 := fz 2
  clear fz
  try unfold zs at c0
  try unfold zs at c1
  have HG := Lib.hid (show w3.heap[w.heap.size]? = some (.cells #[.string ⟨#[]⟩, .string ⟨#[]⟩, .int .i64 0] 146 (0, 0)) from R3.out.lo)
  have HB := Lib.hid R3.out.bw
  go_wp2_with (first | (refine wpList_store_row rfl 146 _ _ rfl w.heap.size #[.string Wt, .string ⟨#[]⟩, .int .i64 0] rfl rfl 146 #[.string ⟨#[]⟩, .string ⟨#[]⟩, .int .i64 0] HG.out (by first | kernel_rfl | rfl) rfl (by first | kernel_rfl | rfl) ?_))
  exact bodyPost_ret (results_cell_two rfl _ _ _ _ _ rfl (run_loadVar_row _ w.heap.size 146 146 _ (0, 0) _ (setRow_heap _ _ _ _ _ _ HG.out) Tryz.underlying146 rfl (by first | kernel_rfl | rfl))) rfl ⟨rfl, below_setRow' HB.out (Nat.le_refl _) _⟩
theorem tcutDecimal_a_true (s : ByteArray) (w : World) (Wt S1 t0 Rt : ByteArray) (X : Int) (n2 : Wt.toList.isEmpty = false)
   (C1 : Hid (∀ W, Ct 254 #[.string s, .int .i64 10] (.tuple #[.string Wt, .string S1]) W))
   (C2 : Hid (∀ W, Cq 257 #[.string S1, .string ⟨#[46]⟩] (.tuple #[.string t0, .bool false]) W))
   (C3 : Hid (∀ W, Ct 258 #[.string S1] (.tuple #[.int .i64 X, .string Rt, .bool true]) W)) :
    Cp 199 #[.string s] w (fun e w' => e = .returned (.tuple #[.agg #[.string Wt, .string ⟨#[]⟩, .int .i64 X], .string Rt, .bool true]) ∧ Below w.heap.size w w') := by
  have R0 := Lib.hid (Rd.start w)
  go_enter Tryz.func199, Tryz.ntmps199
  go_wp2_with fail
  refine (C1.out _).mono ?_
  rintro e w1 ⟨rfl, hb1⟩
  have R1 := Lib.hid (R0.out.step hb1)
  clear hb1
  obtain ⟨c0, c1, c2, fz⟩ := R1.out.hi.cells
  have f0 := fz 0
  have f1 := fz 1
  have f2 := fz 2
  clear fz
  try unfold zs at c0
  try unfold zs at c1
  go_wp2_with fail
  refine (C2.out _).mono ?_
  rintro e w2 ⟨rfl, rfl⟩
  have R2 := Lib.hid (R1.out.put0 (.string Wt))
  generalize w1.setCell ⟨w.heap.size + 1, 0, none⟩ (.string Wt) = w2 at *
  clear c0 c1 c2 f0 f1 f2
  obtain ⟨c0, c1, c2, fz⟩ := R2.out.hi.cells
  have f0 := fz 0
  have f1 := fz 1
  have f2 := fz 2
  clear fz
  try unfold zs at c0
  try unfold zs at c1
  go_wp2_with fail
  refine (C3.out _).mono ?_
  rintro e w3 ⟨rfl, hb3⟩
  have R3 := Lib.hid (R2.out.step hb3)
  clear hb3 c0 c1 c2 f0 f1 f2
  obtain ⟨c0, c1, c2, fz⟩ := R3.out.hi.cells
  have f0 := fz 0
  have f1 := fz 1
  have f2 := fz 2
  clear fz
  try unfold zs at c0
  try unfold zs at c1
  have HR := Lib.hid (R3.out.put2 (.int .i64 X))
  have HG := Lib.hid (show (w3.setCell ⟨w.heap.size + 1, 2, none⟩ (.int .i64 X)).heap[w.heap.size]? = some (.cells #[.string ⟨#[]⟩, .string ⟨#[]⟩, .int .i64 0] 146 (0, 0)) from HR.out.lo)
  have HB := Lib.hid HR.out.bw
  obtain ⟨d0, d1, d2, _⟩ := HR.out.hi.cells
  try unfold zs at d1
  go_wp2_with (first | (refine wpList_store_row rfl 146 _ _ rfl w.heap.size #[.string Wt, .string ⟨#[]⟩, .int .i64 X] rfl rfl 146 #[.string ⟨#[]⟩, .string ⟨#[]⟩, .int .i64 0] HG.out (by first | kernel_rfl | rfl) rfl (by first | kernel_rfl | rfl) ?_))
  exact bodyPost_ret (results_cell_two rfl _ _ _ _ _ rfl (run_loadVar_row _ w.heap.size 146 146 _ (0, 0) _ (setRow_heap _ _ _ _ _ _ HG.out) Tryz.underlying146 rfl (by first | kernel_rfl | rfl))) rfl ⟨rfl, below_setRow' HB.out (Nat.le_refl _) _⟩
theorem tcutDecimal_b0_false (s : ByteArray) (w : World) (Wt S1 S2 Bt Ft Rt : ByteArray) (X : Int) (n2 : Wt.toList.isEmpty = false)
   (C1 : Hid (∀ W, Ct 254 #[.string s, .int .i64 10] (.tuple #[.string Wt, .string S1]) W))
   (C2 : Hid (∀ W, Cq 257 #[.string S1, .string ⟨#[46]⟩] (.tuple #[.string Bt, .bool true]) W))
   (C4 : Hid (∀ W, Ct 254 #[.string Bt, .int .i64 10] (.tuple #[.string Ft, .string S2]) W))
   (C3 : Hid (∀ W, Ct 258 #[.string S2] (.tuple #[.int .i64 X, .string Rt, .bool false]) W)) :
    Cp 199 #[.string s] w (fun e w' => e = .returned (.tuple #[.agg #[.string Wt, .string Ft, .int .i64 0], .string S2, .bool true]) ∧ Below w.heap.size w w') := by
  have R0 := Lib.hid (Rd.start w)
  go_enter Tryz.func199, Tryz.ntmps199
  go_wp2_with fail
  refine (C1.out _).mono ?_
  rintro e w1 ⟨rfl, hb1⟩
  have R1 := Lib.hid (R0.out.step hb1)
  clear hb1
  obtain ⟨c0, c1, c2, fz⟩ := R1.out.hi.cells
  have f0 := fz 0
  have f1 := fz 1
  have f2 := fz 2
  clear fz
  try unfold zs at c0
  try unfold zs at c1
  go_wp2_with fail
  refine (C2.out _).mono ?_
  rintro e w2 ⟨rfl, rfl⟩
  have R2 := Lib.hid (R1.out.put0 (.string Wt))
  generalize w1.setCell ⟨w.heap.size + 1, 0, none⟩ (.string Wt) = w2 at *
  clear c0 c1 c2 f0 f1 f2
  obtain ⟨c0, c1, c2, fz⟩ := R2.out.hi.cells
  have f0 := fz 0
  have f1 := fz 1
  have f2 := fz 2
  clear fz
  try unfold zs at c0
  try unfold zs at c1
  go_wp2_with fail
  refine (C4.out _).mono ?_
  rintro e w3 ⟨rfl, hb3⟩
  have R3 := Lib.hid (R2.out.step hb3)
  clear hb3 c0 c1 c2 f0 f1 f2
  obtain ⟨c0, c1, c2, fz⟩ := R3.out.hi.cells
  have f0 := fz 0
  have f1 := fz 1
  have f2 := fz 2
  clear fz
  try unfold zs at c0
  try unfold zs at c1
  have R4 := Lib.hid (R3.out.put1 (.string Ft))
  obtain ⟨e0, e1, e2, ez⟩ := R4.out.hi.cells
  have g0 := ez 0
  have g1 := ez 1
  have g2 := ez 2
  clear ez
  go_wp2_with fail
  refine (C3.out _).mono ?_
  rintro e w5 ⟨rfl, hb5⟩
  have R5 := Lib.hid (R4.out.step hb5)
  clear hb5 c0 c1 c2 f0 f1 f2
  obtain ⟨c0, c1, c2, fz⟩ := R5.out.hi.cells
  have f0 := fz 0
  have f1 := fz 1
  have f2 := fz 2
  clear fz
  try unfold zs at c0
  try unfold zs at c1
  have HG := Lib.hid (show w5.heap[w.heap.size]? = some (.cells #[.string ⟨#[]⟩, .string ⟨#[]⟩, .int .i64 0] 146 (0, 0)) from R5.out.lo)
  have HB := Lib.hid R5.out.bw
  go_wp2_with (first | (refine wpList_store_row rfl 146 _ _ rfl w.heap.size #[.string Wt, .string Ft, .int .i64 0] rfl rfl 146 #[.string ⟨#[]⟩, .string ⟨#[]⟩, .int .i64 0] HG.out (by first | kernel_rfl | rfl) rfl (by first | kernel_rfl | rfl) ?_))
  exact bodyPost_ret (results_cell_two rfl _ _ _ _ _ rfl (run_loadVar_row _ w.heap.size 146 146 _ (0, 0) _ (setRow_heap _ _ _ _ _ _ HG.out) Tryz.underlying146 rfl (by first | kernel_rfl | rfl))) rfl ⟨rfl, below_setRow' HB.out (Nat.le_refl _) _⟩
theorem tcutDecimal_b0_true (s : ByteArray) (w : World) (Wt S1 S2 Bt Ft Rt : ByteArray) (X : Int) (n2 : Wt.toList.isEmpty = false)
   (C1 : Hid (∀ W, Ct 254 #[.string s, .int .i64 10] (.tuple #[.string Wt, .string S1]) W))
   (C2 : Hid (∀ W, Cq 257 #[.string S1, .string ⟨#[46]⟩] (.tuple #[.string Bt, .bool true]) W))
   (C4 : Hid (∀ W, Ct 254 #[.string Bt, .int .i64 10] (.tuple #[.string Ft, .string S2]) W))
   (C3 : Hid (∀ W, Ct 258 #[.string S2] (.tuple #[.int .i64 X, .string Rt, .bool true]) W)) :
    Cp 199 #[.string s] w (fun e w' => e = .returned (.tuple #[.agg #[.string Wt, .string Ft, .int .i64 X], .string Rt, .bool true]) ∧ Below w.heap.size w w') := by
  have R0 := Lib.hid (Rd.start w)
  go_enter Tryz.func199, Tryz.ntmps199
  go_wp2_with fail
  refine (C1.out _).mono ?_
  rintro e w1 ⟨rfl, hb1⟩
  have R1 := Lib.hid (R0.out.step hb1)
  clear hb1
  obtain ⟨c0, c1, c2, fz⟩ := R1.out.hi.cells
  have f0 := fz 0
  have f1 := fz 1
  have f2 := fz 2
  clear fz
  try unfold zs at c0
  try unfold zs at c1
  go_wp2_with fail
  refine (C2.out _).mono ?_
  rintro e w2 ⟨rfl, rfl⟩
  have R2 := Lib.hid (R1.out.put0 (.string Wt))
  generalize w1.setCell ⟨w.heap.size + 1, 0, none⟩ (.string Wt) = w2 at *
  clear c0 c1 c2 f0 f1 f2
  obtain ⟨c0, c1, c2, fz⟩ := R2.out.hi.cells
  have f0 := fz 0
  have f1 := fz 1
  have f2 := fz 2
  clear fz
  try unfold zs at c0
  try unfold zs at c1
  go_wp2_with fail
  refine (C4.out _).mono ?_
  rintro e w3 ⟨rfl, hb3⟩
  have R3 := Lib.hid (R2.out.step hb3)
  clear hb3 c0 c1 c2 f0 f1 f2
  obtain ⟨c0, c1, c2, fz⟩ := R3.out.hi.cells
  have f0 := fz 0
  have f1 := fz 1
  have f2 := fz 2
  clear fz
  try unfold zs at c0
  try unfold zs at c1
  have R4 := Lib.hid (R3.out.put1 (.string Ft))
  obtain ⟨e0, e1, e2, ez⟩ := R4.out.hi.cells
  have g0 := ez 0
  have g1 := ez 1
  have g2 := ez 2
  clear ez
  go_wp2_with fail
  refine (C3.out _).mono ?_
  rintro e w5 ⟨rfl, hb5⟩
  have R5 := Lib.hid (R4.out.step hb5)
  clear hb5 c0 c1 c2 f0 f1 f2
  obtain ⟨c0, c1, c2, fz⟩ := R5.out.hi.cells
  have f0 := fz 0
  have f1 := fz 1
  have f2 := fz 2
  clear fz
  try unfold zs at c0
  try unfold zs at c1
  have HR := Lib.hid (R5.out.put2 (.int .i64 X))
  have HG := Lib.hid (show (w5.setCell ⟨w.heap.size + 1, 2, none⟩ (.int .i64 X)).heap[w.heap.size]? = some (.cells #[.string ⟨#[]⟩, .string ⟨#[]⟩, .int .i64 0] 146 (0, 0)) from HR.out.lo)
  have HB := Lib.hid HR.out.bw
  obtain ⟨d0, d1, d2, _⟩ := HR.out.hi.cells
  try unfold zs at d1
  go_wp2_with (first | (refine wpList_store_row rfl 146 _ _ rfl w.heap.size #[.string Wt, .string Ft, .int .i64 X] rfl rfl 146 #[.string ⟨#[]⟩, .string ⟨#[]⟩, .int .i64 0] HG.out (by first | kernel_rfl | rfl) rfl (by first | kernel_rfl | rfl) ?_))
  exact bodyPost_ret (results_cell_two rfl _ _ _ _ _ rfl (run_loadVar_row _ w.heap.size 146 146 _ (0, 0) _ (setRow_heap _ _ _ _ _ _ HG.out) Tryz.underlying146 rfl (by first | kernel_rfl | rfl))) rfl ⟨rfl, below_setRow' HB.out (Nat.le_refl _) _⟩
theorem tcutDecimal_b1_false (s : ByteArray) (w : World) (S1 S2 Bt Ft Rt : ByteArray) (X : Int) (m2 : Ft.toList.isEmpty = false)
   (C1 : Hid (∀ W, Ct 254 #[.string s, .int .i64 10] (.tuple #[.string ⟨#[]⟩, .string S1]) W))
   (C2 : Hid (∀ W, Cq 257 #[.string S1, .string ⟨#[46]⟩] (.tuple #[.string Bt, .bool true]) W))
   (C4 : Hid (∀ W, Ct 254 #[.string Bt, .int .i64 10] (.tuple #[.string Ft, .string S2]) W))
   (C3 : Hid (∀ W, Ct 258 #[.string S2] (.tuple #[.int .i64 X, .string Rt, .bool false]) W)) :
    Cp 199 #[.string s] w (fun e w' => e = .returned (.tuple #[.agg #[.string ⟨#[]⟩, .string Ft, .int .i64 0], .string S2, .bool true]) ∧ Below w.heap.size w w') := by
  have R0 := Lib.hid (Rd.start w)
  go_enter Tryz.func199, Tryz.ntmps199
  go_wp2_with fail
  refine (C1.out _).mono ?_
  rintro e w1 ⟨rfl, hb1⟩
  have R1 := Lib.hid (R0.out.step hb1)
  clear hb1
  obtain ⟨c0, c1, c2, fz⟩ := R1.out.hi.cells
  have f0 := fz 0
  have f1 := fz 1
  have f2 := fz 2
  clear fz
  try unfold zs at c0
  try unfold zs at c1
  go_wp2_with fail
  refine (C2.out _).mono ?_
  rintro e w2 ⟨rfl, rfl⟩
  have R2 := Lib.hid (R1.out.put0 (.string ⟨#[]⟩))
  generalize w1.setCell ⟨w.heap.size + 1, 0, none⟩ (.string ⟨#[]⟩) = w2 at *
  clear c0 c1 c2 f0 f1 f2
  obtain ⟨c0, c1, c2, fz⟩ := R2.out.hi.cells
  have f0 := fz 0
  have f1 := fz 1
  have f2 := fz 2
  clear fz
  try unfold zs at c0
  try unfold zs at c1
  go_wp2_with fail
  refine (C4.out _).mono ?_
  rintro e w3 ⟨rfl, hb3⟩
  have R3 := Lib.hid (R2.out.step hb3)
  clear hb3 c0 c1 c2 f0 f1 f2
  obtain ⟨c0, c1, c2, fz⟩ := R3.out.hi.cells
  have f0 := fz 0
  have f1 := fz 1
  have f2 := fz 2
  clear fz
  try unfold zs at c0
  try unfold zs at c1
  have R4 := Lib.hid (R3.out.put1 (.string Ft))
  obtain ⟨e0, e1, e2, ez⟩ := R4.out.hi.cells
  have g0 := ez 0
  have g1 := ez 1
  have g2 := ez 2
  clear ez
  go_wp2_with fail
  refine (C3.out _).mono ?_
  rintro e w5 ⟨rfl, hb5⟩
  have R5 := Lib.hid (R4.out.step hb5)
  clear hb5 c0 c1 c2 f0 f1 f2
  obtain ⟨c0, c1, c2, fz⟩ := R5.out.hi.cells
  have f0 := fz 0
  have f1 := fz 1
  have f2 := fz 2
  clear fz
  try unfold zs at c0
  try unfold zs at c1
  have HG := Lib.hid (show w5.heap[w.heap.size]? = some (.cells #[.string ⟨#[]⟩, .string ⟨#[]⟩, .int .i64 0] 146 (0, 0)) from R5.out.lo)
  have HB := Lib.hid R5.out.bw
  go_wp2_with (first | (refine wpList_store_row rfl 146 _ _ rfl w.heap.size #[.string ⟨#[]⟩, .string Ft, .int .i64 0] rfl rfl 146 #[.string ⟨#[]⟩, .string ⟨#[]⟩, .int .i64 0] HG.out (by first | kernel_rfl | rfl) rfl (by first | kernel_rfl | rfl) ?_))
  exact bodyPost_ret (results_cell_two rfl _ _ _ _ _ rfl (run_loadVar_row _ w.heap.size 146 146 _ (0, 0) _ (setRow_heap _ _ _ _ _ _ HG.out) Tryz.underlying146 rfl (by first | kernel_rfl | rfl))) rfl ⟨rfl, below_setRow' HB.out (Nat.le_refl _) _⟩
theorem tcutDecimal_b1_true (s : ByteArray) (w : World) (S1 S2 Bt Ft Rt : ByteArray) (X : Int) (m2 : Ft.toList.isEmpty = false)
   (C1 : Hid (∀ W, Ct 254 #[.string s, .int .i64 10] (.tuple #[.string ⟨#[]⟩, .string S1]) W))
   (C2 : Hid (∀ W, Cq 257 #[.string S1, .string ⟨#[46]⟩] (.tuple #[.string Bt, .bool true]) W))
   (C4 : Hid (∀ W, Ct 254 #[.string Bt, .int .i64 10] (.tuple #[.string Ft, .string S2]) W))
   (C3 : Hid (∀ W, Ct 258 #[.string S2] (.tuple #[.int .i64 X, .string Rt, .bool true]) W)) :
    Cp 199 #[.string s] w (fun e w' => e = .returned (.tuple #[.agg #[.string ⟨#[]⟩, .string Ft, .int .i64 X], .string Rt, .bool true]) ∧ Below w.heap.size w w') := by
  have R0 := Lib.hid (Rd.start w)
  go_enter Tryz.func199, Tryz.ntmps199
  go_wp2_with fail
  refine (C1.out _).mono ?_
  rintro e w1 ⟨rfl, hb1⟩
  have R1 := Lib.hid (R0.out.step hb1)
  clear hb1
  obtain ⟨c0, c1, c2, fz⟩ := R1.out.hi.cells
  have f0 := fz 0
  have f1 := fz 1
  have f2 := fz 2
  clear fz
  try unfold zs at c0
  try unfold zs at c1
  go_wp2_with fail
  refine (C2.out _).mono ?_
  rintro e w2 ⟨rfl, rfl⟩
  have R2 := Lib.hid (R1.out.put0 (.string ⟨#[]⟩))
  generalize w1.setCell ⟨w.heap.size + 1, 0, none⟩ (.string ⟨#[]⟩) = w2 at *
  clear c0 c1 c2 f0 f1 f2
  obtain ⟨c0, c1, c2, fz⟩ := R2.out.hi.cells
  have f0 := fz 0
  have f1 := fz 1
  have f2 := fz 2
  clear fz
  try unfold zs at c0
  try unfold zs at c1
  go_wp2_with fail
  refine (C4.out _).mono ?_
  rintro e w3 ⟨rfl, hb3⟩
  have R3 := Lib.hid (R2.out.step hb3)
  clear hb3 c0 c1 c2 f0 f1 f2
  obtain ⟨c0, c1, c2, fz⟩ := R3.out.hi.cells
  have f0 := fz 0
  have f1 := fz 1
  have f2 := fz 2
  clear fz
  try unfold zs at c0
  try unfold zs at c1
  have R4 := Lib.hid (R3.out.put1 (.string Ft))
  obtain ⟨e0, e1, e2, ez⟩ := R4.out.hi.cells
  have g0 := ez 0
  have g1 := ez 1
  have g2 := ez 2
  clear ez
  go_wp2_with fail
  refine (C3.out _).mono ?_
  rintro e w5 ⟨rfl, hb5⟩
  have R5 := Lib.hid (R4.out.step hb5)
  clear hb5 c0 c1 c2 f0 f1 f2
  obtain ⟨c0, c1, c2, fz⟩ := R5.out.hi.cells
  have f0 := fz 0
  have f1 := fz 1
  have f2 := fz 2
  clear fz
  try unfold zs at c0
  try unfold zs at c1
  have HR := Lib.hid (R5.out.put2 (.int .i64 X))
  have HG := Lib.hid (show (w5.setCell ⟨w.heap.size + 1, 2, none⟩ (.int .i64 X)).heap[w.heap.size]? = some (.cells #[.string ⟨#[]⟩, .string ⟨#[]⟩, .int .i64 0] 146 (0, 0)) from HR.out.lo)
  have HB := Lib.hid HR.out.bw
  obtain ⟨d0, d1, d2, _⟩ := HR.out.hi.cells
  try unfold zs at d1
  go_wp2_with (first | (refine wpList_store_row rfl 146 _ _ rfl w.heap.size #[.string ⟨#[]⟩, .string Ft, .int .i64 X] rfl rfl 146 #[.string ⟨#[]⟩, .string ⟨#[]⟩, .int .i64 0] HG.out (by first | kernel_rfl | rfl) rfl (by first | kernel_rfl | rfl) ?_))
  exact bodyPost_ret (results_cell_two rfl _ _ _ _ _ rfl (run_loadVar_row _ w.heap.size 146 146 _ (0, 0) _ (setRow_heap _ _ _ _ _ _ HG.out) Tryz.underlying146 rfl (by first | kernel_rfl | rfl))) rfl ⟨rfl, below_setRow' HB.out (Nat.le_refl _) _⟩
theorem tcutDecimal_dot (s : ByteArray) (w : World) (S1 S2 Bt : ByteArray)
   (C1 : Hid (∀ W, Ct 254 #[.string s, .int .i64 10] (.tuple #[.string ⟨#[]⟩, .string S1]) W))
   (C2 : Hid (∀ W, Cq 257 #[.string S1, .string ⟨#[46]⟩] (.tuple #[.string Bt, .bool true]) W))
   (C4 : Hid (∀ W, Ct 254 #[.string Bt, .int .i64 10] (.tuple #[.string ⟨#[]⟩, .string S2]) W)) :
    Cp 199 #[.string s] w (fun e w' => e = .returned (.tuple #[.agg #[.string ⟨#[]⟩, .string ⟨#[]⟩, .int .i64 0], .string ⟨#[]⟩, .bool false]) ∧ Below w.heap.size w w') := by
  have R0 := Lib.hid (Rd.start w)
  go_enter Tryz.func199, Tryz.ntmps199
  go_wp2_with fail
  refine (C1.out _).mono ?_
  rintro e w1 ⟨rfl, hb1⟩
  have R1 := Lib.hid (R0.out.step hb1)
  clear hb1
  obtain ⟨c0, c1, c2, fz⟩ := R1.out.hi.cells
  have f0 := fz 0
  have f1 := fz 1
  have f2 := fz 2
  clear fz
  try unfold zs at c0
  try unfold zs at c1
  go_wp2_with fail
  refine (C2.out _).mono ?_
  rintro e w2 ⟨rfl, rfl⟩
  have R2 := Lib.hid (R1.out.put0 (.string ⟨#[]⟩))
  generalize w1.setCell ⟨w.heap.size + 1, 0, none⟩ (.string ⟨#[]⟩) = w2 at *
  clear c0 c1 c2 f0 f1 f2
  obtain ⟨c0, c1, c2, fz⟩ := R2.out.hi.cells
  have f0 := fz 0
  have f1 := fz 1
  have f2 := fz 2
  clear fz
  try unfold zs at c0
  try unfold zs at c1
  go_wp2_with fail
  refine (C4.out _).mono ?_
  rintro e w3 ⟨rfl, hb3⟩
  have R3 := Lib.hid (R2.out.step hb3)
  clear hb3 c0 c1 c2 f0 f1 f2
  obtain ⟨c0, c1, c2, fz⟩ := R3.out.hi.cells
  have f0 := fz 0
  have f1 := fz 1
  have f2 := fz 2
  clear fz
  try unfold zs at c0
  try unfold zs at c1
  have HG := Lib.hid (show w3.heap[w.heap.size]? = some (.cells #[.string ⟨#[]⟩, .string ⟨#[]⟩, .int .i64 0] 146 (0, 0)) from R3.out.lo)
  have HB := Lib.hid R3.out.bw
  go_wp2_with (first | (refine wpList_store_row rfl 146 _ _ rfl w.heap.size #[.string ⟨#[]⟩, .string ⟨#[]⟩, .int .i64 0] rfl rfl 146 #[.string ⟨#[]⟩, .string ⟨#[]⟩, .int .i64 0] HG.out (by first | kernel_rfl | rfl) rfl (by first | kernel_rfl | rfl) ?_))
  exact bodyPost_ret (results_cell_two rfl _ _ _ _ _ rfl (run_loadVar_row _ w.heap.size 146 146 _ (0, 0) _ (setRow_heap _ _ _ _ _ _ HG.out) Tryz.underlying146 rfl (by first | kernel_rfl | rfl))) rfl ⟨rfl, below_setRow' HB.out (Nat.le_refl _) _⟩


end
section
open Go.RowKit
theorem expq_no {l : List Nat} {w w' : World} {e : Ending} (h : ExpQ l w e w') (hb : expB l = false) : e = .returned (.tuple #[.int .i64 0, .string ⟨#[]⟩, .bool false]) ∧ Below w.heap.size w w' := by
 obtain ⟨h1, h2⟩ := h
 refine ⟨?_, h2⟩
 rw [h1]
 unfold exV
 rw [hb, if_neg (by simp), if_neg (by simp)]
 rfl
theorem expq_yes {l : List Nat} {w w' : World} {e : Ending} (h : ExpQ l w e w') (hb : expB l = true) : e = .returned (.tuple #[.int .i64 (expV l), .string (strOf (expR l)), .bool true]) ∧ Below w.heap.size w w' := by
 obtain ⟨h1, h2⟩ := h
 refine ⟨?_, h2⟩
 rw [h1]
 unfold exV
 rw [hb, if_pos rfl, if_pos rfl]
def DecQ (l : List Nat) (w : World) (e : Ending) (w' : World) : Prop :=
 e = .returned (.tuple #[.agg #[.string (strOf (dW l)), .string (strOf (dF l)), .int .i64 (dX l)], .string (strOf (dR l)), .bool true]) ∧ Below w.heap.size w w'
theorem tcutDecimal_yes (s : ByteArray) (w : World) (hs : s.size ≤ 4611686018427387903) (h : dB (bl s) = true) : Cp 199 #[.string s] w (DecQ (bl s) w) := by
 obtain ⟨l, hl⟩ : ∃ l, bl s = l := ⟨_, rfl⟩
 have hlt := bl_lt s
 have hlen := bl_size s
 rw [hl] at h hlt hlen ⊢
 have hA : ∀ c ∈ aft10 l, c < 256 := fun c hc => hlt c (aft_sub c hc)
 have hAl := run_len l
 have C1 := fun W => tcutDigits_any s 10 W (by omega) hs
 rw [hl, ldq_dg] at C1
 have C2 := fun W => cut_one (strOf (aft10 l)) 46 W
 rw [bl_strOf hA] at C2
 have e2 : ((aft10 l).head? == some (46 : UInt8).toNat) = dotB (aft10 l) := rfl
 rw [e2] at C2
 have key : ∀ T : List Nat, (∀ c ∈ T, c < 256) → T.length ≤ 4611686018427387903 → ∀ W, Cp 258 #[.string (strOf T)] W (ExpQ T W) := by
  intro T h1 h2 W
  have := tcutExponent_any (strOf T) W (by rw [strOf_size]; exact h2)
  rw [bl_strOf h1] at this
  exact this
 have ne : ∀ R : List Nat, R ≠ [] → (strOf R).toList.isEmpty = false := fun R hR => (str_ne hR).2
 cases hd : dotB (aft10 l)
 ·rw [hd] at C2
  have hF : dF l = [] := by unfold dF; rw [hd, if_neg (by simp)]
  have hT : dT l = aft10 l := by unfold dT; rw [hd, if_neg (by simp)]
  have hW : dW l ≠ [] := by
   intro e
   unfold dB at h
   rw [hF, e] at h
   simp at h
  have C3 := key (aft10 l) hA (by omega)
  unfold DecQ
  have hX : dX l = exV (aft10 l) := by unfold dX; rw [hT]
  have hR : dR l = exR (aft10 l) := by unfold dR; rw [hT]
  rw [hF, hX, hR]
  unfold exV exR
  cases hb : expB (aft10 l)
  ·rw [if_neg (by simp), if_neg (by simp)]
   exact tcutDecimal_a_false s w _ _ _ _ 0 (ne _ hW) (Lib.hid C1) (Lib.hid C2) (Lib.hid (fun W => (C3 W).mono fun e w' x => expq_no x hb))
  ·rw [if_pos rfl, if_pos rfl]
   exact tcutDecimal_a_true s w _ _ _ _ _ (ne _ hW) (Lib.hid C1) (Lib.hid C2) (Lib.hid (fun W => (C3 W).mono fun e w' x => expq_yes x hb))
 ·rw [hd] at C2
  have hh : (aft10 l).head? = some (46 : UInt8).toNat := beq_iff_eq.1 hd
  rw [if_pos hh] at C2
  have hF : dF l = run10 (aft10 l).tail := by unfold dF; rw [hd, if_pos rfl]
  have hT : dT l = aft10 (aft10 l).tail := by unfold dT; rw [hd, if_pos rfl]
  have hA2 : ∀ c ∈ (aft10 l).tail, c < 256 := fun c hc => hA c (tail_sub c hc)
  have hl2 : (aft10 l).tail.length ≤ 4611686018427387903 := by rw [List.length_tail]; omega
  have C4 := fun W => cut_ten (aft10 l).tail W hA2 hl2
  have hl3 := run_len (aft10 l).tail
  have C3 := key (aft10 (aft10 l).tail) (fun c hc => hA2 c (aft_sub c hc)) (by omega)
  unfold DecQ
  have hX : dX l = exV (aft10 (aft10 l).tail) := by unfold dX; rw [hT]
  have hR : dR l = exR (aft10 (aft10 l).tail) := by unfold dR; rw [hT]
  rw [hF, hX, hR]
  unfold exV exR
  by_cases hW : run10 l = []
  ·have hF2 : run10 (aft10 l).tail ≠ [] := by
    intro e
    unfold dB dW at h
    rw [hF, e, hW] at h
    simp at h
   have C1 : ∀ W, Ct 254 #[.string s, .int .i64 10] (.tuple #[.string ⟨#[]⟩, .string (strOf (aft10 l))]) W := by
    have C1' : ∀ W, Ct 254 #[.string s, .int .i64 10] (.tuple #[.string (strOf (run10 l)), .string (strOf (aft10 l))]) W := C1
    rw [hW] at C1'
    exact C1'
   unfold dW
   rw [hW]
   cases hb : expB (aft10 (aft10 l).tail)
   ·rw [if_neg (by simp), if_neg (by simp)]
    exact tcutDecimal_b1_false s w _ _ _ _ ⟨#[]⟩ 0 (ne _ hF2) (Lib.hid C1) (Lib.hid C2) (Lib.hid C4) (Lib.hid (fun W => (C3 W).mono fun e w' x => expq_no x hb))
   ·rw [if_pos rfl, if_pos rfl]
    exact tcutDecimal_b1_true s w _ _ _ _ _ _ (ne _ hF2) (Lib.hid C1) (Lib.hid C2) (Lib.hid C4) (Lib.hid (fun W => (C3 W).mono fun e w' x => expq_yes x hb))
  ·cases hb : expB (aft10 (aft10 l).tail)
   ·rw [if_neg (by simp), if_neg (by simp)]
    exact tcutDecimal_b0_false s w _ _ _ _ _ ⟨#[]⟩ 0 (ne _ hW) (Lib.hid C1) (Lib.hid C2) (Lib.hid C4) (Lib.hid (fun W => (C3 W).mono fun e w' x => expq_no x hb))
   ·rw [if_pos rfl, if_pos rfl]
    exact tcutDecimal_b0_true s w _ _ _ _ _ _ _ (ne _ hW) (Lib.hid C1) (Lib.hid C2) (Lib.hid C4) (Lib.hid (fun W => (C3 W).mono fun e w' x => expq_yes x hb))
theorem tcutDecimal_no (s : ByteArray) (w : World) (hs : s.size ≤ 4611686018427387903) (h : dB (bl s) = false) :
  Cp 199 #[.string s] w (fun e w' => e = .returned (.tuple #[.agg #[.string ⟨#[]⟩, .string ⟨#[]⟩, .int .i64 0], .string ⟨#[]⟩, .bool false]) ∧ Below w.heap.size w w') := by
 obtain ⟨l, hl⟩ : ∃ l, bl s = l := ⟨_, rfl⟩
 have hlt := bl_lt s
 have hlen := bl_size s
 rw [hl] at h hlt hlen
 have hA : ∀ c ∈ aft10 l, c < 256 := fun c hc => hlt c (aft_sub c hc)
 have hAl := run_len l
 have C1 : ∀ W, Ct 254 #[.string s, .int .i64 10] (.tuple #[.string (strOf (run10 l)), .string (strOf (aft10 l))]) W := by
  intro W
  have := tcutDigits_any s 10 W (by omega) hs
  rw [hl, ldq_dg] at this
  exact this
 have C2 := fun W => cut_one (strOf (aft10 l)) 46 W
 rw [bl_strOf hA] at C2
 have e2 : ((aft10 l).head? == some (46 : UInt8).toNat) = dotB (aft10 l) := rfl
 rw [e2] at C2
 unfold dB dW at h
 have hW : run10 l = [] := by
  cases hr : run10 l with
  | nil => rfl
  | cons => rw [hr] at h; simp at h
 have hF : dF l = [] := by
  cases hr : dF l with
  | nil => rfl
  | cons => rw [hr, hW] at h; simp at h
 rw [hW] at C1
 cases hd : dotB (aft10 l)
 ·rw [hd] at C2
  have hne : ¬ (aft10 l).head? = some (46 : UInt8).toNat := by
   intro e
   unfold dotB at hd
   rw [e] at hd
   simp at hd
  rw [if_neg hne] at C2
  exact tcutDecimal_none s w _ (Lib.hid C1) (Lib.hid C2)
 ·rw [hd] at C2
  have hh : (aft10 l).head? = some (46 : UInt8).toNat := beq_iff_eq.1 hd
  rw [if_pos hh] at C2
  have hA2 : ∀ c ∈ (aft10 l).tail, c < 256 := fun c hc => hA c (tail_sub c hc)
  have hl2 : (aft10 l).tail.length ≤ 4611686018427387903 := by rw [List.length_tail]; omega
  have C4 := fun W => cut_ten (aft10 l).tail W hA2 hl2
  have hF2 : run10 (aft10 l).tail = [] := by
   unfold dF at hF
   rw [hd, if_pos rfl] at hF
   exact hF
  rw [hF2] at C4
  exact tcutDecimal_dot s w _ _ _ (Lib.hid C1) (Lib.hid C2) (Lib.hid C4)


end
section
open Go.RowKit
theorem traised_any {w : World} {A : Option Addr} {n c m : Nat} (t : Int) (hA : NV w A n c m) (hm : bln m ≤ 6000) (ht1 : -2000 ≤ t) (ht : t ≤ 2000) :
  Cp 303 #[.slice A n c, .int .i64 t] w (NRet (m * 5 ^ t.toNat) w) := by
 have hp := bln_five t.toNat
 obtain ⟨k, hk⟩ : ∃ k, t.toNat = k := ⟨_, rfl⟩
 rw [hk] at hp ⊢
 have C1 := Lib.hid (fun W => npow 5 k W (by omega) (by omega) (by omega))
 have C2 := Lib.hid (fun W C k2 d (h : NV W C k2 d (5 ^ k)) (g : NV W A n c m) => nmul g h (by omega) (by omega))
 have H := Lib.hid hA
 have e0 : max t 0 = (k : Int) := by omega
 clear hA hp hk hm ht1 ht
 go_enter Tryz.func303, Tryz.ntmps303
 go_wp2_with fail
 refine (C1.out _).mono ?_
 rintro e w1 ⟨A1, n1, c1, rfl, g1, b1⟩
 have G1 := Lib.hid g1
 have G0 := Lib.hid (H.out.step b1)
 have B1 := Lib.hid b1
 clear g1 b1
 go_wp2_with fail
 refine (C2.out _ _ _ _ G1.out G0.out).mono ?_
 rintro e w2 ⟨A2, n2, c2, rfl, g2, b2⟩
 have G2 := Lib.hid g2
 have B2 := Lib.hid b2
 clear g2 b2
 go_wp2
 go_ret
 exact ⟨A2, n2, c2, rfl, G2.out, below_le B1.out B2.out⟩
def QRet (a b : Nat) (w : World) (e : Ending) (w' : World) : Prop := ∃ A n c, e = .returned (.tuple #[.slice A n c, .bool (decide (a % b = 0))]) ∧ NV w' A n c (a / b) ∧ Below w.heap.size w w'
theorem len_zero {v n : Nat} (h : (wds v).length = n) : ((n : Int) == 0) = decide (v = 0) := by
 by_cases h0 : v = 0
 ·rw [h0] at h
  have : n = 0 := by rw [← h]; rfl
  rw [this, h0]; rfl
 ·have h1 : (wds v) ≠ [] := by
   intro e
   have := wds_val v
   rw [e] at this
   exact h0 this.symm
  have h2 := List.length_pos_iff.2 h1
  rw [decide_eq_false h0, beq_eq_false_iff_ne]
  omega
theorem tratio_any {w : World} {A C : Option Addr} {n c m d a b : Nat} (t : Int) (hA : NV w A n c a) (hC : NV w C m d b) (ha : bln a ≤ 6000) (hb : bln b ≤ 6000) (h0 : 0 < b) (ht1 : -8000 ≤ t) (ht : t ≤ 8000) :
  Cp 306 #[.slice A n c, .slice C m d, .int .i64 t] w (QRet (a * 2 ^ t.toNat) (b * 2 ^ (-t).toNat) w) := by
 have hp1 := bln_pow2 t.toNat
 have hp2 := bln_pow2 (-t).toNat
 have hm1 := bln_mul a (2 ^ t.toNat)
 have hm2 := bln_mul b (2 ^ (-t).toNat)
 have h00 : 0 < b * 2 ^ (-t).toNat := Nat.mul_pos h0 (two_pos _)
 obtain ⟨x, hx⟩ : ∃ x, t.toNat = x := ⟨_, rfl⟩
 obtain ⟨y, hy⟩ : ∃ y, (-t).toNat = y := ⟨_, rfl⟩
 rw [hx] at hp1 hm1 ⊢
 rw [hy] at hp2 hm2 h00 ⊢
 have C1 := Lib.hid (fun W (h : NV W A n c a) => nshl h x (by omega))
 have C2 := Lib.hid (fun W (h : NV W C m d b) => nshl h y (by omega))
 obtain ⟨P, hP⟩ : ∃ P, a * 2 ^ x = P := ⟨_, rfl⟩
 obtain ⟨Q, hQ⟩ : ∃ Q, b * 2 ^ y = Q := ⟨_, rfl⟩
 rw [hP] at C1 hm1 ⊢
 rw [hQ] at C2 hm2 h00 ⊢
 have C3 := Lib.hid (fun W A1 n1 c1 A2 n2 c2 (h : NV W A1 n1 c1 P) (g : NV W A2 n2 c2 Q) => ndiv h g (by omega) (by omega) h00)
 have HA := Lib.hid hA
 have HC := Lib.hid hC
 have e0 : max t 0 = (x : Int) := by omega
 have e1 : max (-t) 0 = (y : Int) := by omega
 have e2 : IntKind.i64.wrap (-t) = -t := IntWalk.i64_in _ (by omega)
 clear hA hC ha hb h0 ht1 ht hp1 hp2 hm1 hm2 hx hy hP hQ
 go_enter Tryz.func306, Tryz.ntmps306
 go_wp2_with fail
 refine (C1.out _ HA.out).mono ?_
 rintro e w1 ⟨A1, n1, c1, rfl, g1, b1⟩
 have G1 := Lib.hid g1
 have GC := Lib.hid (HC.out.step b1)
 have B1 := Lib.hid b1
 clear g1 b1
 go_wp2_with fail
 refine (C2.out _ GC.out).mono ?_
 rintro e w2 ⟨A2, n2, c2, rfl, g2, b2⟩
 have G2 := Lib.hid g2
 have G1' := Lib.hid (G1.out.step b2)
 have B2 := Lib.hid (below_le B1.out b2)
 clear g2 b2
 go_wp2_with fail
 refine (C3.out _ _ _ _ _ _ _ G1'.out G2.out).mono ?_
 rintro e w3 ⟨A3, n3, c3, A4, n4, c4, rfl, g3, g4, b3⟩
 have G3 := Lib.hid g3
 have B3 := Lib.hid (below_le B2.out b3)
 have HZ := Lib.hid (len_zero g4.len)
 clear g3 g4 b3
 go_wp2
 go_ret2
 exact ⟨A3, n3, c3, by rw [← HZ.out]; rfl, G3.out, B3.out⟩


end
section
open Go.RowKit
theorem tword_any {w : World} {A : Option Addr} {n c v : Nat} (hA : NV w A n c v) (hv : v < 18446744073709551616) :
  Cq 307 #[.slice A n c] (.int .u64 v) w := by
 have hn : n ≤ 2 := by
  rw [← hA.len]
  exact wds_len_lt (by rw [show (4294967296 : Nat) ^ 2 = 18446744073709551616 from by decide]; exact hv)
 have hL := hA.len
 have hws := wds_ws v
 by_cases hn0 : n = 0
 ·subst hn0
  have hv0 : v = 0 := by
   have h1 := wds_val v
   rw [List.eq_nil_of_length_eq_zero hL] at h1
   exact h1.symm
  subst hv0
  clear hL hws hv hA hn
  go_enter Tryz.func307, Tryz.ntmps307
  go_wp2
  go_loopw [3, 8] (fun a i wr => a = .int .u64 0 ∧ i = .int .i64 0 ∧ w = wr) (fun _ _ _ => 0)
  case atStart => exact ⟨rfl, rfl, rfl⟩
  case round =>
   obtain ⟨rfl, rfl, rfl⟩ := hrel
   go_wp2
   go_ret
   exact ⟨rfl, rfl⟩
 ·obtain ⟨b, off, rfl, _, hc⟩ := hA.row.2 (by omega)
  obtain ⟨x, hx⟩ : ∃ x, (wds v).getD 0 0 = x := ⟨_, rfl⟩
  obtain ⟨y, hy⟩ : ∃ y, (wds v).getD 1 0 = y := ⟨_, rfl⟩
  have hxl : x < 4294967296 := by rw [← hx]; exact hws.getD 0
  have hyl : y < 4294967296 := by rw [← hy]; exact hws.getD 1
  have hV1 : n = 1 → v = x := by
   intro h1
   have h2 := wds_val v
   rw [← val_take_end (k := 1) (by omega), val_take_next, hx] at h2
   simp [val] at h2
   exact h2.symm
  have hV2 : n = 2 → v = x + 4294967296 * y := by
   intro h1
   have h2 := wds_val v
   rw [← val_take_end (k := 2) (by omega), val_take_next, val_take_next, hx, hy] at h2
   simp [val] at h2
   exact h2.symm
  have c0 : w.cell? ⟨b, off, none⟩ = some (.int .u32 (x : Int)) := by
   rw [← hx]
   exact hc 0 _ (getD_some (by omega))
  have hx0 : bits BinOp.or IntKind.u64 0 (x : Int) = (x : Int) := by
   have := or_u64 0 x (by omega) (by omega)
   rw [Nat.zero_or] at this
   exact this
  have k1 : IntKind.u64.wrap (x : Int) = (x : Int) := IntWalk.u64_in _ (by omega)
  rcases (show n = 1 ∨ n = 2 by omega) with rfl | rfl
  ·have hv1 := hV1 rfl
   subst hv1
   clear hV1 hV2 hx hy hyl hws hL hA hn hn0 hc
   go_enter Tryz.func307, Tryz.ntmps307
   go_wp2
   go_loopw [3, 8] (fun a i wr => ((a = .int .u64 0 ∧ i = .int .i64 0) ∨ (a = .int .u64 (v : Int) ∧ i = .int .i64 1)) ∧ w = wr) (fun _ i _ => 1 - (intOf i).toNat)
   case atStart => exact ⟨Or.inl ⟨rfl, rfl⟩, rfl⟩
   case round =>
    obtain ⟨⟨rfl, rfl⟩ | ⟨rfl, rfl⟩, rfl⟩ := hrel
    ·go_wp2
     exact ⟨⟨Or.inr ⟨rfl, rfl⟩, trivial⟩, by simp [intOf]⟩
    ·go_wp2
     go_ret
     exact ⟨rfl, rfl⟩
  ·have hv2 := hV2 rfl
   have c1 : w.cell? ⟨b, off + 1, none⟩ = some (.int .u32 (y : Int)) := by
    rw [← hy]
    exact hc 1 _ (getD_some (by omega))
   have k2 : IntKind.u64.wrap (y : Int) = (y : Int) := IntWalk.u64_in _ (by omega)
   have k3 : IntKind.u64.wrap ((y : Int) * 4294967296) = (y : Int) * 4294967296 := IntWalk.u64_in _ (by omega)
   have hy0 : bits BinOp.or IntKind.u64 (x : Int) ((y : Int) * 4294967296) = (v : Int) := by
    have h1 := or_u64 x (y * 4294967296) (by omega) (by omega)
    have h2 : ((y * 4294967296 : Nat) : Int) = (y : Int) * 4294967296 := by omega
    rw [h2] at h1
    rw [h1, Nat.or_comm, two_word y x hxl, hv2, Nat.mul_comm y, Nat.add_comm]
   clear hV1 hV2 hx hy hws hL hA hn hn0 hc hv2 hxl hyl hv
   go_enter Tryz.func307, Tryz.ntmps307
   go_wp2
   go_loopw [3, 8] (fun a i wr => ((a = .int .u64 0 ∧ i = .int .i64 0) ∨ (a = .int .u64 (x : Int) ∧ i = .int .i64 1) ∨ (a = .int .u64 (v : Int) ∧ i = .int .i64 2)) ∧ w = wr) (fun _ i _ => 2 - (intOf i).toNat)
   case atStart => exact ⟨Or.inl ⟨rfl, rfl⟩, rfl⟩
   case round =>
    obtain ⟨⟨rfl, rfl⟩ | ⟨rfl, rfl⟩ | ⟨rfl, rfl⟩, rfl⟩ := hrel
    ·go_wp2
     exact ⟨⟨Or.inr (Or.inl ⟨rfl, rfl⟩), trivial⟩, by simp [intOf]⟩
    ·go_wp2
     exact ⟨⟨Or.inr (Or.inr ⟨rfl, rfl⟩), trivial⟩, by simp [intOf]⟩
    ·go_wp2
     go_ret
     exact ⟨rfl, rfl⟩


end
section
open Go.RowKit
theorem fmag_mono {r s : Nat} (h : fmag r ≤ fmag s) : r ≤ s := by
 rcases Nat.lt_or_ge s r with h1 | h1
 ·have := fmag_step h1
  omega
 ·exact h1
theorem Ld_make2 {E D : Nat} {e' : Int} (hE : E ≤ 9007199254740992) (hD : D = 0 ∨ 4503599627370496 ≤ E) (hD2 : D ≤ 8000) (he : e' = (D : Int) - 1074) (w : World) : Cq 312 #[.float .f64 (fl E), .int .i64 e'] (.float .f64 (min (D * 4503599627370496 + E) 9218868437227405312)) w := by
 rcases Nat.lt_or_ge 2045 D with h | h
 ·obtain ⟨K, hK⟩ : ∃ K : Nat, K = 1074 := ⟨_, rfl⟩
  obtain ⟨y1, y2⟩ := fl_upto hE hK
  have hE2 : 4503599627370496 ≤ E := hD.resolve_left (by omega)
  have e1 := fmag_make 4503599627370496 K (by omega) (by omega)
  have h3 : K * 4503599627370496 + 4503599627370496 ≤ fl E := by
   refine fmag_mono ?_
   rw [e1, y2]
   exact Nat.mul_le_mul_right _ hE2
  have h4 := ldexp_any (fl E) (D - 1074) w (by omega) y1 (by omega)
  have h5 : scl (fl E) (D - 1074) = 9218868437227405312 := by
   unfold scl
   rw [if_neg]
   have : K + 1 ≤ fl E / 4503599627370496 := by
    rw [Nat.le_div_iff_mul_le (by omega)]
    omega
   omega
  rw [h5] at h4
  rw [show e' = ((D - 1074 : Nat) : Int) by omega, Nat.min_eq_right (by omega)]
  exact h4
 ·exact Ld_make hE hD h he w
theorem trounded_a (n d L q H P r s E F : Nat) (two X : Int) (w : World) (hnb : n < 18446744073709551616) (hL : Lib.bitLen n = L) (hd0 : 1 ≤ d) (hd3 : d ≤ 10) (k1 : IntKind.i64.wrap (-1074 - two) = -1074 - two) (k2 : IntKind.i64.wrap ((L : Int) - 53) = (L : Int) - 53) (hd : max ((L : Int) - 53) (-1074 - two) = (d : Int))
  (q1 : (n : Int) / 2 ^ d = (q : Int)) (q2 : IntKind.u64.wrap (2 ^ d) = (P : Int)) (q3 : IntKind.u64.wrap ((P : Int) - 1) = (P : Int) - 1) (q4 : IntKind.u64.wrap (2 ^ (d - 1)) = (H : Int)) (q5 : bits BinOp.and IntKind.u64 (n : Int) ((P : Int) - 1) = (r : Int)) (q6 : bits BinOp.and IntKind.u64 (q : Int) 1 = (s : Int)) (q7 : IntKind.u64.wrap ((q : Int) + 1) = (q : Int) + 1) (q8 : wrap64 (two + (d : Int)) = X)
  (t1 : decide (H < r) = true) (hE : (q : Int) + 1 = (E : Int))
  (C2 : Hid (∀ W, Cq 312 #[.float .f64 (floatOfInt .f64 (E : Int)), .int .i64 X] (.float .f64 F) W)) :
  Ct 308 #[.int .u64 n, .int .i64 two] (.float .f64 F) w := by
 have C1 := Lib.hid (fun W => (Tryz.bits_Len64 (n : Int) W (by omega) (by omega)).mono fun e w' h => And.intro h.1 h.2.symm)
 rw [Int.toNat_natCast, hL] at C1
 have k3 : (0 : Int) ≤ (d : Int) := by omega
 have k4 : (0 : Int) ≤ (d : Int) - 1 := by omega
 rw [← hE] at C2
 have Q1 := Lib.hid q1
 have Q2 := Lib.hid q2
 have Q3 := Lib.hid q3
 have Q4 := Lib.hid q4
 have Q5 := Lib.hid q5
 have Q6 := Lib.hid q6
 have Q7 := Lib.hid q7
 have Q8 := Lib.hid q8
 have T1 := Lib.hid t1
 clear t1 hL hnb hE q1 q2 q3 q4 q5 q6 q7 q8
 go_enter Tryz.func308, Tryz.ntmps308
 go_wp2_with fail
 refine (C1.out _).mono ?_
 rintro e w' ⟨rfl, rfl⟩
 go_wp2
 go_quiet (fail)
 have q1 := Q1.out
 have q2 := Q2.out
 have q3 := Q3.out
 have q4 := Q4.out
 have q5 := Q5.out
 have q6 := Q6.out
 have q7 := Q7.out
 have q8 := Q8.out
 have t1 := T1.out
 go_wp2_with fail
 refine (C2.out _).mono ?_
 rintro e w' ⟨rfl, rfl⟩
 go_wp2
 go_ret
 exact ⟨rfl, below_drewN' (Below.refl _ _) _⟩
theorem trounded_b (n d L q H P s E F : Nat) (two X : Int) (w : World) (hnb : n < 18446744073709551616) (hL : Lib.bitLen n = L) (hd0 : 1 ≤ d) (hd3 : d ≤ 10) (k1 : IntKind.i64.wrap (-1074 - two) = -1074 - two) (k2 : IntKind.i64.wrap ((L : Int) - 53) = (L : Int) - 53) (hd : max ((L : Int) - 53) (-1074 - two) = (d : Int))
  (q1 : (n : Int) / 2 ^ d = (q : Int)) (q2 : IntKind.u64.wrap (2 ^ d) = (P : Int)) (q3 : IntKind.u64.wrap ((P : Int) - 1) = (P : Int) - 1) (q4 : IntKind.u64.wrap (2 ^ (d - 1)) = (H : Int)) (q5 : bits BinOp.and IntKind.u64 (n : Int) ((P : Int) - 1) = (H : Int)) (q6 : bits BinOp.and IntKind.u64 (q : Int) 1 = (s : Int)) (q7 : IntKind.u64.wrap ((q : Int) + 1) = (q : Int) + 1) (q8 : wrap64 (two + (d : Int)) = X)
  (t3 : ((s : Int) == 1) = true) (hE : (q : Int) + 1 = (E : Int))
  (C2 : Hid (∀ W, Cq 312 #[.float .f64 (floatOfInt .f64 (E : Int)), .int .i64 X] (.float .f64 F) W)) :
  Ct 308 #[.int .u64 n, .int .i64 two] (.float .f64 F) w := by
 have C1 := Lib.hid (fun W => (Tryz.bits_Len64 (n : Int) W (by omega) (by omega)).mono fun e w' h => And.intro h.1 h.2.symm)
 rw [Int.toNat_natCast, hL] at C1
 have k3 : (0 : Int) ≤ (d : Int) := by omega
 have k4 : (0 : Int) ≤ (d : Int) - 1 := by omega
 rw [← hE] at C2
 have Q1 := Lib.hid q1
 have Q2 := Lib.hid q2
 have Q3 := Lib.hid q3
 have Q4 := Lib.hid q4
 have Q5 := Lib.hid q5
 have Q6 := Lib.hid q6
 have Q7 := Lib.hid q7
 have Q8 := Lib.hid q8
 have T3 := Lib.hid t3
 clear t3 hL hnb hE q1 q2 q3 q4 q5 q6 q7 q8
 go_enter Tryz.func308, Tryz.ntmps308
 go_wp2_with fail
 refine (C1.out _).mono ?_
 rintro e w' ⟨rfl, rfl⟩
 go_wp2
 go_quiet (fail)
 have q1 := Q1.out
 have q2 := Q2.out
 have q3 := Q3.out
 have q4 := Q4.out
 have q5 := Q5.out
 have q6 := Q6.out
 have q7 := Q7.out
 have q8 := Q8.out
 have t3 := T3.out
 go_wp2_with fail
 refine (C2.out _).mono ?_
 rintro e w' ⟨rfl, rfl⟩
 go_wp2
 go_ret
 exact ⟨rfl, below_drewN' (Below.refl _ _) _⟩
theorem trounded_c (n d L q H P s E F : Nat) (two X : Int) (w : World) (hnb : n < 18446744073709551616) (hL : Lib.bitLen n = L) (hd0 : 1 ≤ d) (hd3 : d ≤ 10) (k1 : IntKind.i64.wrap (-1074 - two) = -1074 - two) (k2 : IntKind.i64.wrap ((L : Int) - 53) = (L : Int) - 53) (hd : max ((L : Int) - 53) (-1074 - two) = (d : Int))
  (q1 : (n : Int) / 2 ^ d = (q : Int)) (q2 : IntKind.u64.wrap (2 ^ d) = (P : Int)) (q3 : IntKind.u64.wrap ((P : Int) - 1) = (P : Int) - 1) (q4 : IntKind.u64.wrap (2 ^ (d - 1)) = (H : Int)) (q5 : bits BinOp.and IntKind.u64 (n : Int) ((P : Int) - 1) = (H : Int)) (q6 : bits BinOp.and IntKind.u64 (q : Int) 1 = (s : Int)) (q7 : IntKind.u64.wrap ((q : Int) + 1) = (q : Int) + 1) (q8 : wrap64 (two + (d : Int)) = X)
  (t3 : ((s : Int) == 1) = false) (hE : (q : Int) = (E : Int))
  (C2 : Hid (∀ W, Cq 312 #[.float .f64 (floatOfInt .f64 (E : Int)), .int .i64 X] (.float .f64 F) W)) :
  Ct 308 #[.int .u64 n, .int .i64 two] (.float .f64 F) w := by
 have C1 := Lib.hid (fun W => (Tryz.bits_Len64 (n : Int) W (by omega) (by omega)).mono fun e w' h => And.intro h.1 h.2.symm)
 rw [Int.toNat_natCast, hL] at C1
 have k3 : (0 : Int) ≤ (d : Int) := by omega
 have k4 : (0 : Int) ≤ (d : Int) - 1 := by omega
 rw [← hE] at C2
 have Q1 := Lib.hid q1
 have Q2 := Lib.hid q2
 have Q3 := Lib.hid q3
 have Q4 := Lib.hid q4
 have Q5 := Lib.hid q5
 have Q6 := Lib.hid q6
 have Q7 := Lib.hid q7
 have Q8 := Lib.hid q8
 have T3 := Lib.hid t3
 clear t3 hL hnb hE q1 q2 q3 q4 q5 q6 q7 q8
 go_enter Tryz.func308, Tryz.ntmps308
 go_wp2_with fail
 refine (C1.out _).mono ?_
 rintro e w' ⟨rfl, rfl⟩
 go_wp2
 go_quiet (fail)
 have q1 := Q1.out
 have q2 := Q2.out
 have q3 := Q3.out
 have q4 := Q4.out
 have q5 := Q5.out
 have q6 := Q6.out
 have q7 := Q7.out
 have q8 := Q8.out
 have t3 := T3.out
 go_wp2_with fail
 refine (C2.out _).mono ?_
 rintro e w' ⟨rfl, rfl⟩
 go_wp2
 go_ret
 exact ⟨rfl, below_drewN' (Below.refl _ _) _⟩
theorem trounded_d (n d L q H P r s E F : Nat) (two X : Int) (w : World) (hnb : n < 18446744073709551616) (hL : Lib.bitLen n = L) (hd0 : 1 ≤ d) (hd3 : d ≤ 10) (k1 : IntKind.i64.wrap (-1074 - two) = -1074 - two) (k2 : IntKind.i64.wrap ((L : Int) - 53) = (L : Int) - 53) (hd : max ((L : Int) - 53) (-1074 - two) = (d : Int))
  (q1 : (n : Int) / 2 ^ d = (q : Int)) (q2 : IntKind.u64.wrap (2 ^ d) = (P : Int)) (q3 : IntKind.u64.wrap ((P : Int) - 1) = (P : Int) - 1) (q4 : IntKind.u64.wrap (2 ^ (d - 1)) = (H : Int)) (q5 : bits BinOp.and IntKind.u64 (n : Int) ((P : Int) - 1) = (r : Int)) (q6 : bits BinOp.and IntKind.u64 (q : Int) 1 = (s : Int)) (q7 : IntKind.u64.wrap ((q : Int) + 1) = (q : Int) + 1) (q8 : wrap64 (two + (d : Int)) = X)
  (t1 : decide (H < r) = false) (t2 : ((r : Int) == (H : Int)) = false) (hE : (q : Int) = (E : Int))
  (C2 : Hid (∀ W, Cq 312 #[.float .f64 (floatOfInt .f64 (E : Int)), .int .i64 X] (.float .f64 F) W)) :
  Ct 308 #[.int .u64 n, .int .i64 two] (.float .f64 F) w := by
 have C1 := Lib.hid (fun W => (Tryz.bits_Len64 (n : Int) W (by omega) (by omega)).mono fun e w' h => And.intro h.1 h.2.symm)
 rw [Int.toNat_natCast, hL] at C1
 have k3 : (0 : Int) ≤ (d : Int) := by omega
 have k4 : (0 : Int) ≤ (d : Int) - 1 := by omega
 rw [← hE] at C2
 have Q1 := Lib.hid q1
 have Q2 := Lib.hid q2
 have Q3 := Lib.hid q3
 have Q4 := Lib.hid q4
 have Q5 := Lib.hid q5
 have Q6 := Lib.hid q6
 have Q7 := Lib.hid q7
 have Q8 := Lib.hid q8
 have T1 := Lib.hid t1
 have T2 := Lib.hid t2
 clear t1 t2 hL hnb hE q1 q2 q3 q4 q5 q6 q7 q8
 go_enter Tryz.func308, Tryz.ntmps308
 go_wp2_with fail
 refine (C1.out _).mono ?_
 rintro e w' ⟨rfl, rfl⟩
 go_wp2
 go_quiet (fail)
 have q1 := Q1.out
 have q2 := Q2.out
 have q3 := Q3.out
 have q4 := Q4.out
 have q5 := Q5.out
 have q6 := Q6.out
 have q7 := Q7.out
 have q8 := Q8.out
 have t1 := T1.out
 have t2 := T2.out
 go_wp2_with fail
 refine (C2.out _).mono ?_
 rintro e w' ⟨rfl, rfl⟩
 go_wp2
 go_ret
 exact ⟨rfl, below_drewN' (Below.refl _ _) _⟩


end
section
open Go.RowKit
theorem bit_bounds {n : Nat} (hn : n < 9223372036854775808) : n < 2 ^ Lib.bitLen n ∧ (Lib.bitLen n = 0 ∨ 2 ^ (Lib.bitLen n - 1) ≤ n) ∧ Lib.bitLen n ≤ 63 := by
 have h63 := Lib.bitLen_le n 63 (by omega) (by rw [show (2 : Nat) ^ 63 = 9223372036854775808 by decide]; exact hn)
 rcases Nat.eq_zero_or_pos n with h0 | h0
 ·rw [h0, show Lib.bitLen 0 = 0 by decide]
  exact ⟨by decide, Or.inl rfl, by omega⟩
 ·have h := Lib.bitLenAux_bounds 64 n (by omega) (by omega)
  exact ⟨h.2.2, Or.inr h.2.1, h63⟩
theorem trounded_any (n : Nat) (two : Int) (w : World) (hn : n < 9223372036854775808) (h1 : -1076 ≤ two) (h2 : two ≤ 6000) (hb : two = -1076 ∨ 2 ^ 60 ≤ n) :
  Ct 308 #[.int .u64 n, .int .i64 two] (.float .f64 (rnd (n * 2 ^ (two + 1074).toNat) (2 ^ (-(two + 1074)).toNat))) w := by
 obtain ⟨b1, b2, b3⟩ := bit_bounds hn
 obtain ⟨L, hL⟩ : ∃ L, Lib.bitLen n = L := ⟨_, rfl⟩
 rw [hL] at b1 b2 b3
 have hL60 : two = -1076 ∨ 61 ≤ L := by
  rcases hb with h | h
  ·exact Or.inl h
  ·refine Or.inr ?_
   have := (Nat.pow_lt_pow_iff_right (a := 2) (by omega)).1 (Nat.lt_of_le_of_lt h b1)
   omega
 obtain ⟨d, hd⟩ : ∃ d : Nat, max ((L : Int) - 53) (-1074 - two) = (d : Int) := ⟨(max ((L : Int) - 53) (-1074 - two)).toNat, by omega⟩
 have hd2 : 2 ≤ d := by omega
 have hd3 : d ≤ 10 := by omega
 obtain ⟨D, hD⟩ : ∃ D : Nat, two + d + 1074 = (D : Int) := ⟨(two + d + 1074).toNat, by omega⟩
 obtain ⟨A, hA⟩ : ∃ A, (two + 1074).toNat = A := ⟨_, rfl⟩
 obtain ⟨B, hB⟩ : ∃ B, (-(two + 1074)).toNat = B := ⟨_, rfl⟩
 rw [hA, hB]
 obtain ⟨r1, r2, r3⟩ := rnd_drop (n := n) (L := L) (drop := d) (A := A) (B := B) (D := D) b1 b2 (by omega) (by omega) (by omega)
 rw [r1]
 obtain ⟨E, hE⟩ : ∃ E, ediv n (2 ^ d) = E := ⟨_, rfl⟩
 rw [hE] at r2 r3 ⊢
 have C2 : Hid (∀ W, Cq 312 #[.float .f64 (floatOfInt .f64 (E : Int)), .int .i64 (two + d)] (.float .f64 (min (D * 4503599627370496 + E) 9218868437227405312)) W) :=
  Lib.hid (fun W => Ld_make2 (D := D) r2 r3 (by omega) (by omega) W)
 obtain ⟨c, rfl⟩ : ∃ c, d = c + 1 := ⟨d - 1, by omega⟩
 have hP : 2 ^ (c + 1) = 2 * 2 ^ c := by rw [Nat.pow_succ, Nat.mul_comm]
 obtain ⟨H, hH⟩ : ∃ H, 2 ^ c = H := ⟨_, rfl⟩
 rw [hH] at hP
 have hH0 : 0 < H := by rw [← hH]; exact two_pos c
 have hH9 : H ≤ 512 := by
  rw [← hH]
  have := Nat.pow_le_pow_right (n := 2) (by omega) (show c ≤ 9 by omega)
  omega
 obtain ⟨P, hPP⟩ : ∃ P, 2 ^ (c + 1) = P := ⟨_, rfl⟩
 rw [hPP] at hP
 have cast : ∀ k : Nat, ((2 : Int) ^ k) = ((2 ^ k : Nat) : Int) := fun k => by simp
 obtain ⟨q, hq⟩ : ∃ q, n / P = q := ⟨_, rfl⟩
 obtain ⟨r, hr⟩ : ∃ r, n % P = r := ⟨_, rfl⟩
 have hql : q ≤ n := by rw [← hq]; exact Nat.div_le_self _ _
 have hrl : r < P := by rw [← hr]; exact Nat.mod_lt _ (by omega)
 have q1 : (n : Int) / 2 ^ (c + 1) = (q : Int) := by rw [cast, hPP, ← hq]; exact (Int.natCast_ediv n P).symm
 have q2 : IntKind.u64.wrap (2 ^ (c + 1)) = (P : Int) := by rw [cast, hPP]; exact IntWalk.u64_in _ (by omega)
 have q3 : IntKind.u64.wrap ((P : Int) - 1) = (P : Int) - 1 := IntWalk.u64_in _ (by omega)
 have q4 : IntKind.u64.wrap (2 ^ (c + 1 - 1)) = (H : Int) := by rw [Nat.add_sub_cancel, cast, hH]; exact IntWalk.u64_in _ (by omega)
 have q5 : bits BinOp.and IntKind.u64 (n : Int) ((P : Int) - 1) = (r : Int) := by
  rw [show ((P : Int) - 1) = ((P - 1 : Nat) : Int) by omega, u64_and_nat _ _ (by omega) (by omega), ← hPP, Nat.and_two_pow_sub_one_eq_mod, hPP, hr]
 have q6 : bits BinOp.and IntKind.u64 (q : Int) 1 = ((q % 2 : Nat) : Int) := by
  have := u64_and_nat q 1 (by omega) (by omega)
  rw [show ((1 : Nat) : Int) = 1 from rfl] at this
  rw [this, show (1 : Nat) = 2 ^ 1 - 1 from rfl, Nat.and_two_pow_sub_one_eq_mod]
 have q7 : IntKind.u64.wrap ((q : Int) + 1) = (q : Int) + 1 := IntWalk.u64_in _ (by omega)
 have q8 : wrap64 (two + ((c + 1 : Nat) : Int)) = two + ((c + 1 : Nat) : Int) := by
  unfold wrap64; omega
 have k1 : IntKind.i64.wrap (-1074 - two) = -1074 - two := IntWalk.i64_in _ (by omega)
 have k2 : IntKind.i64.wrap ((L : Int) - 53) = (L : Int) - 53 := IntWalk.i64_in _ (by omega)
 have hEE : E = if H < r ∨ (r = H ∧ q % 2 = 1) then q + 1 else q := by
  rw [← hE, hPP, hP, ediv_half', ← hP, hq, hr]
 rcases Nat.lt_trichotomy r H with h | h | h
 ·rw [if_neg (by omega)] at hEE
  exact trounded_d n (c + 1) L q H P r (q % 2) E _ two _ w (by omega) hL (by omega) hd3 k1 k2 hd q1 q2 q3 q4 q5 q6 q7 q8 (decide_eq_false (by omega)) (by rw [beq_eq_false_iff_ne]; omega) (by rw [hEE]) C2
 ·subst h
  by_cases ho : q % 2 = 1
  ·rw [if_pos (Or.inr ⟨rfl, ho⟩)] at hEE
   exact trounded_b n (c + 1) L q r P (q % 2) E _ two _ w (by omega) hL (by omega) hd3 k1 k2 hd q1 q2 q3 q4 q5 q6 q7 q8 (by rw [ho]; rfl) (by rw [hEE]; rfl) C2
  ·rw [if_neg (by omega)] at hEE
   exact trounded_c n (c + 1) L q r P (q % 2) E _ two _ w (by omega) hL (by omega) hd3 k1 k2 hd q1 q2 q3 q4 q5 q6 q7 q8 (by rw [beq_eq_false_iff_ne]; omega) (by rw [hEE]) C2
 ·rw [if_pos (Or.inl h)] at hEE
  exact trounded_a n (c + 1) L q H P r (q % 2) E _ two _ w (by omega) hL (by omega) hd3 k1 k2 hd q1 q2 q3 q4 q5 q6 q7 q8 (decide_eq_true h) (by rw [hEE]; rfl) C2
theorem quot_bits {a b x y p q : Nat} (ha1 : 2 ^ p ≤ a) (ha2 : a < 2 ^ (p + 1)) (hb1 : 2 ^ q ≤ b) (hb2 : b < 2 ^ (q + 1)) (k : Nat) :
  (p + 1 + x ≤ k + q + y → a * 2 ^ x / (b * 2 ^ y) < 2 ^ k) ∧ (k + q + 1 + y ≤ p + x → 2 ^ k ≤ a * 2 ^ x / (b * 2 ^ y)) := by
 have hX := two_pos x
 have hY := two_pos y
 have hb : 0 < b := Nat.lt_of_lt_of_le (two_pos q) hb1
 constructor
 ·intro h
  rw [Nat.div_lt_iff_lt_mul (Nat.mul_pos hb hY)]
  have h1 : a * 2 ^ x < 2 ^ (p + 1) * 2 ^ x := Nat.mul_lt_mul_of_pos_right ha2 hX
  have h2 : 2 ^ k * (2 ^ q * 2 ^ y) ≤ 2 ^ k * (b * 2 ^ y) := Nat.mul_le_mul_left _ (Nat.mul_le_mul_right _ hb1)
  have h3 : 2 ^ (p + 1) * 2 ^ x ≤ 2 ^ k * (2 ^ q * 2 ^ y) := by
   rw [← Nat.pow_add, ← Nat.pow_add, ← Nat.pow_add]
   exact Nat.pow_le_pow_right (by omega) (by omega)
  omega
 ·intro h
  rw [Nat.le_div_iff_mul_le (Nat.mul_pos hb hY)]
  have h1 : 2 ^ p * 2 ^ x ≤ a * 2 ^ x := Nat.mul_le_mul_right _ ha1
  have h2 : 2 ^ k * (b * 2 ^ y) ≤ 2 ^ k * (2 ^ (q + 1) * 2 ^ y) := Nat.mul_le_mul_left _ (Nat.mul_le_mul_right _ (Nat.le_of_lt hb2))
  have h3 : 2 ^ k * (2 ^ (q + 1) * 2 ^ y) ≤ 2 ^ p * 2 ^ x := by
   rw [← Nat.pow_add, ← Nat.pow_add, ← Nat.pow_add]
   exact Nat.pow_le_pow_right (by omega) (by omega)
  omega
def NearP (m : Nat) (ten : Int) (w : World) (e : Ending) (w' : World) : Prop := e = .returned (.float .f64 (decR m ten)) ∧ Below w.heap.size w w'
theorem tnearest_walk {w : World} {A : Option Addr} {n c m T B bt bb q nn F : Nat} {ten x1 x2 x3 last two : Int} {ex : Bool} (hA : NV w A n c m)
  (C1 : Hid (∀ W, NV W A n c m → Cp 303 #[.slice A n c, .int .i64 ten] W (NRet T W)))
  (C3 : Hid (∀ W A1 n1 c1, NV W A1 n1 c1 1 → Cp 303 #[.slice A1 n1 c1, .int .i64 (-ten)] W (NRet B W)))
  (C4 : Hid (∀ W A1 n1 c1, NV W A1 n1 c1 T → Cq 305 #[.slice A1 n1 c1] (.int .i64 (bt : Nat)) W))
  (C5 : Hid (∀ W A1 n1 c1, NV W A1 n1 c1 B → Cq 305 #[.slice A1 n1 c1] (.int .i64 (bb : Nat)) W))
  (C6 : Hid (∀ W A1 n1 c1 A2 n2 c2, NV W A1 n1 c1 T → NV W A2 n2 c2 B → Cp 306 #[.slice A1 n1 c1, .slice A2 n2 c2, .int .i64 two] W fun e w' => ∃ A3 n3 c3, e = .returned (.tuple #[.slice A3 n3 c3, .bool ex]) ∧ NV w' A3 n3 c3 q ∧ Below W.heap.size W w'))
  (C7 : Hid (∀ W A1 n1 c1, NV W A1 n1 c1 q → Cq 307 #[.slice A1 n1 c1] (.int .u64 q) W))
  (C8 : Hid (∀ W, Ct 308 #[.int .u64 nn, .int .i64 last] (.float .f64 F) W))
  (k1 : IntKind.i64.wrap (-ten) = -ten) (k2 : IntKind.i64.wrap ((bt : Int) - (bb : Int)) = x1) (k3 : IntKind.i64.wrap (x1 + ten) = x2) (k4 : IntKind.i64.wrap (x2 - 62) = x3) (hmax : max x3 (-1076) = last) (k5 : IntKind.i64.wrap (ten - last) = two)
  (hor : (ex = true ∧ nn = q) ∨ (ex = false ∧ bits BinOp.or IntKind.u64 (q : Int) 1 = (nn : Int))) :
  Ct 263 #[.slice A n c, .int .i64 ten] (.float .f64 F) w := by
 have C2 := Lib.hid (fun W => nof 1 (by omega) W)
 have HA := Lib.hid hA
 clear hA
 rcases hor with ⟨rfl, rfl⟩ | ⟨rfl, hor⟩
 all_goals
  go_enter Tryz.func263, Tryz.ntmps263
  go_wp2_with fail
  refine (C1.out _ HA.out).mono ?_
  rintro e w1 ⟨A1, n1, c1, rfl, g1, b1⟩
  have G1 := Lib.hid g1
  have B1 := Lib.hid b1
  clear g1 b1
  go_wp2_with fail
  refine (C2.out _).mono ?_
  rintro e w2 ⟨A2, n2, c2, rfl, g2, b2⟩
  have G2 := Lib.hid g2
  have G1' := Lib.hid (G1.out.step b2)
  have B2 := Lib.hid (below_le B1.out b2)
  clear g2 b2
  go_wp2_with fail
  refine (C3.out _ _ _ _ G2.out).mono ?_
  rintro e w3 ⟨A3, n3, c3, rfl, g3, b3⟩
  have G3 := Lib.hid g3
  have G1'' := Lib.hid (G1'.out.step b3)
  have B3 := Lib.hid (below_le B2.out b3)
  clear g3 b3
  go_wp2_with fail
  refine (C4.out _ _ _ _ G1''.out).mono ?_
  rintro e w' ⟨rfl, rfl⟩
  go_wp2_with fail
  refine (C5.out _ _ _ _ G3.out).mono ?_
  rintro e w' ⟨rfl, rfl⟩
  go_wp2_with fail
  refine (C6.out _ _ _ _ _ _ _ G1''.out G3.out).mono ?_
  rintro e w4 ⟨A4, n4, c4, rfl, g4, b4⟩
  have G4 := Lib.hid g4
  have B4 := Lib.hid (below_le B3.out b4)
  clear g4 b4
  go_wp2_with fail
  refine (C7.out _ _ _ _ G4.out).mono ?_
  rintro e w' ⟨rfl, rfl⟩
  go_wp2_with fail
  refine (C8.out _).mono ?_
  rintro e w5 ⟨rfl, b5⟩
  have B5 := Lib.hid (below_le B4.out b5)
  clear b5
  go_wp2
  go_ret
  exact ⟨rfl, B5.out⟩


end
section
open Go.RowKit
theorem or_small {q s : Nat} (hq : q < 9223372036854775808) (hs : s ≤ 1) : q ||| s < 9223372036854775808 ∧ q ≤ q ||| s := by
 refine ⟨?_, Nat.left_le_or⟩
 have : q ||| s < 2 ^ 63 := Nat.or_lt_two_pow (by rw [show (2 : Nat) ^ 63 = 9223372036854775808 by decide]; exact hq) (by rw [show (2 : Nat) ^ 63 = 9223372036854775808 by decide]; omega)
 rw [show (2 : Nat) ^ 63 = 9223372036854775808 by decide] at this
 exact this
theorem tnearest_any {w : World} {A : Option Addr} {n c m : Nat} (ten : Int) (hA : NV w A n c m) (hm : bln m ≤ 3300) (h0 : 0 < m) (ht1 : -1200 ≤ ten) (ht2 : ten ≤ 400) :
  Cp 263 #[.slice A n c, .int .i64 ten] w (NearP m ten w) := by
 have f1 := bln_five ten.toNat
 have f2 := bln_five (-ten).toNat
 have g1 := bln_mul m (5 ^ ten.toNat)
 have p1 : 0 < 5 ^ ten.toNat := Nat.pow_pos (by omega)
 have p2 : 0 < 5 ^ (-ten).toNat := Nat.pow_pos (by omega)
 have e1 : 1 * 5 ^ (-ten).toNat = 5 ^ (-ten).toNat := Nat.one_mul _
 have C1 := Lib.hid (fun W (h : NV W A n c m) => traised_any ten h (by omega) (by omega) (by omega))
 have C3 := Lib.hid (fun W A1 n1 c1 (h : NV W A1 n1 c1 1) => traised_any (-ten) h (by rw [show bln 1 = 1 by decide]; omega) (by omega) (by omega))
 rw [e1] at C3
 obtain ⟨T, hT⟩ : ∃ T, m * 5 ^ ten.toNat = T := ⟨_, rfl⟩
 obtain ⟨B, hB⟩ : ∃ B, 5 ^ (-ten).toNat = B := ⟨_, rfl⟩
 have hT0 : 0 < T := by rw [← hT]; exact Nat.mul_pos h0 p1
 rw [hT] at C1 g1
 rw [hB] at C3 f2 p2
 obtain ⟨u1, u2, u3⟩ := bln_bounds hT0
 obtain ⟨v1, v2, v3⟩ := bln_bounds p2
 have C4 := Lib.hid (fun W A1 n1 c1 (h : NV W A1 n1 c1 T) => nbits h (by omega))
 have C5 := Lib.hid (fun W A1 n1 c1 (h : NV W A1 n1 c1 B) => nbits h (by omega))
 have cr := fun (t : Int) (h1 : -8000 ≤ t) (h2 : t ≤ 8000) W A1 n1 c1 A2 n2 c2 (h : NV W A1 n1 c1 T) (g : NV W A2 n2 c2 B) => tratio_any t h g (by omega) (by omega) p2 h1 h2
 obtain ⟨bt, hbt⟩ : ∃ bt, bln T = bt := ⟨_, rfl⟩
 obtain ⟨bb, hbb⟩ : ∃ bb, bln B = bb := ⟨_, rfl⟩
 rw [hbt] at C4 u1 u2 u3 g1
 rw [hbb] at C5 v1 v2 v3 f2
 obtain ⟨p, rfl⟩ : ∃ p, bt = p + 1 := ⟨bt - 1, by omega⟩
 obtain ⟨r, rfl⟩ : ∃ r, bb = r + 1 := ⟨bb - 1, by omega⟩
 rw [Nat.add_sub_cancel] at u1 v1
 obtain ⟨x1, hx1⟩ : ∃ x1, ((p + 1 : Nat) : Int) - ((r + 1 : Nat) : Int) = x1 := ⟨_, rfl⟩
 obtain ⟨x2, hx2⟩ : ∃ x2, x1 + ten = x2 := ⟨_, rfl⟩
 obtain ⟨x3, hx3⟩ : ∃ x3, x2 - 62 = x3 := ⟨_, rfl⟩
 obtain ⟨last, hlast⟩ : ∃ last, max x3 (-1076) = last := ⟨_, rfl⟩
 obtain ⟨two, htwo⟩ : ∃ two, ten - last = two := ⟨_, rfl⟩
 have C6 := cr two (by omega) (by omega)
 obtain ⟨q1, q2⟩ := quot_bits (x := two.toNat) (y := (-two).toNat) u1 u2 v1 v2 63
 have q3 := (quot_bits (x := two.toNat) (y := (-two).toNat) u1 u2 v1 v2 60).2
 have hql := q1 (by omega)
 have hqb : last = -1076 ∨ 2 ^ 60 ≤ T * 2 ^ two.toNat / (B * 2 ^ (-two).toNat) := by
  by_cases hh : last = -1076
  ·exact Or.inl hh
  ·exact Or.inr (q3 (by omega))
 obtain ⟨N, hN⟩ : ∃ N, T * 2 ^ two.toNat = N := ⟨_, rfl⟩
 obtain ⟨d, hd⟩ : ∃ d, B * 2 ^ (-two).toNat = d := ⟨_, rfl⟩
 have hd0 : 0 < d := by rw [← hd]; exact Nat.mul_pos p2 (two_pos _)
 rw [hN, hd] at C6 hql hqb
 obtain ⟨q, hq⟩ : ∃ q, N / d = q := ⟨_, rfl⟩
 obtain ⟨t, ht⟩ : ∃ t, N % d = t := ⟨_, rfl⟩
 have hNd : N = q * d + t := by rw [← hq, ← ht, Nat.mul_comm]; exact (Nat.div_add_mod N d).symm
 have htd : t < d := by rw [← ht]; exact Nat.mod_lt _ hd0
 unfold QRet at C6
 rw [ht, hq] at C6
 rw [hq] at hql hqb
 rw [show (2 : Nat) ^ 63 = 9223372036854775808 by decide] at hql
 obtain ⟨s, hs⟩ : ∃ s, (if t = 0 then 0 else 1) = s := ⟨_, rfl⟩
 have hs1 : s ≤ 1 := by rw [← hs]; split <;> omega
 obtain ⟨o1, o2⟩ := or_small hql hs1
 obtain ⟨nn, hnn⟩ : ∃ nn, q ||| s = nn := ⟨_, rfl⟩
 have key := decR_near (m := m) (N := N) (n := d) (q := q) (t := t) (s := s) (ten := ten) (last := last) (by rw [← hN, ← hT, htwo]) (by rw [← hd, ← hB, show last - ten = -two by omega]) hNd htd hs.symm hqb
 rw [hnn] at key o1 o2
 have C8 := fun W => trounded_any nn last W o1 (by omega) (by omega) (by
  rcases hqb with h | h
  ·exact Or.inl h
  ·exact Or.inr (Nat.le_trans h o2))
 rw [← key] at C8
 refine tnearest_walk (q := q) (nn := nn) (two := two) (last := last) (x1 := x1) (x2 := x2) (x3 := x3) (ex := decide (t = 0)) hA C1 C3 C4 C5 (Lib.hid C6)
  (Lib.hid (fun W A1 n1 c1 h => tword_any h (by omega))) (Lib.hid C8) (IntWalk.i64_in _ (by omega)) (by rw [IntWalk.i64_in _ (by omega)]; exact hx1) (by rw [IntWalk.i64_in _ (by omega)]; exact hx2) (by rw [IntWalk.i64_in _ (by omega)]; exact hx3) hlast (by rw [IntWalk.i64_in _ (by omega)]; exact htwo) ?_
 by_cases h : t = 0
 ·refine Or.inl ⟨decide_eq_true h, ?_⟩
  rw [← hnn, ← hs, if_pos h, Nat.or_zero]
 ·refine Or.inr ⟨decide_eq_false h, ?_⟩
  have := or_u64 q 1 (by omega) (by omega)
  rw [show ((1 : Nat) : Int) = 1 from rfl] at this
  rw [this, ← hnn, ← hs, if_neg h]


end
section
open Go.RowKit
theorem trimL48 (s : ByteArray) (w : World) : Ct 259 #[.string s, .string ⟨#[48]⟩] (.string (strOf (ldz (bl s)))) w := by
 have h := Tryz.strings_TrimLeft_laid s ⟨#[48]⟩ w (by decide) (fun j b hb => by
  have h1 : b ∈ ([48] : List UInt8) := List.mem_of_getElem? hb
  simp at h1
  rw [h1]
  decide)
 rw [show (⟨#[48]⟩ : ByteArray).data.toList = [48] from rfl, tl_48] at h
 exact h
theorem trimR48 (s : ByteArray) (w : World) (hs : s.size ≤ 9223372036854775807) : Ct 260 #[.string s, .string ⟨#[48]⟩] (.string (strOf (trz (bl s)))) w := by
 have h := Tryz.strings_TrimRight_laid s ⟨#[48]⟩ w hs (by decide) (fun j b hb => by
  have h1 : b ∈ ([48] : List UInt8) := List.mem_of_getElem? hb
  simp at h1
  rw [h1]
  decide)
 rw [show (⟨#[48]⟩ : ByteArray).data.toList = [48] from rfl, tr_48] at h
 exact h
theorem btn_bl (s : ByteArray) (i : Nat) (h : i < s.size) : btn s i = (bl s).getD i 0 := by
 rw [List.getD_eq_getElem?_getD, bl_get s i h]
 exact (btn_eq s i h).symm
theorem sv_num (r : Nat) (s : ByteArray) : sv r s = num r (bl s) := by
 unfold sv num
 rw [bl_size]
 exact pv_congr (fun i hi => by rw [btn_bl s i hi])
theorem adB_all {r : Nat} {s : ByteArray} (h0 : bl s ≠ []) (h : ∀ c ∈ bl s, dgt c < r) : adB r s = true := by
 rw [adB_yes (fun i hi => by
  rw [btn_bl s i hi, List.getD_eq_getElem?_getD, List.getElem?_eq_getElem (by rw [bl_size]; exact hi)]
  exact h _ (List.getElem_mem _))]
 have : 0 < (bl s).length := List.length_pos_iff.2 h0
 rw [bl_size] at this
 exact decide_eq_true this
theorem tfloat_none (s1 s2 g h : ByteArray) (X y P : Int) (w : World) (hs1 : s1.size + s2.size ≤ 4611686018427387903)
  (C1 : Hid (∀ W, Ct 259 #[.string (s1 ++ s2), .string ⟨#[48]⟩] (.string g) W))
  (C2 : Hid (∀ W, Ct 260 #[.string g, .string ⟨#[48]⟩] (.string h) W))
  (k1 : IntKind.i64.wrap ((g.size : Int) - (s2.size : Int)) = y) (k2 : IntKind.i64.wrap (y + X) = P)
  (t1 : h.toList.isEmpty = true) :
  Ct 200 #[.agg #[.string s1, .string s2, .int .i64 X]] (.float .f64 0) w := by
 have hs2 : ¬ 9223372036854775807 < s1.size + s2.size := by omega
 have R0 := Lib.hid (show Rc (w.alloc (.cells #[.string s1, .string s2, .int .i64 X] 146)) w.heap.size (.string s1) (.string s2) (.int .i64 X) from heap_alloc_last w _)
 have B0 := Lib.hid (show Below w.heap.size w (w.alloc (.cells #[.string s1, .string s2, .int .i64 X] 146)) from (Below.refl _ _).alloc (Nat.le_refl _) _)
 have S0 := Lib.hid (show w.heap.size < (w.alloc (.cells #[.string s1, .string s2, .int .i64 X] 146)).heap.size by simp)
 clear hs1
 go_enter Tryz.func200, Tryz.ntmps200
 go_wp2_with fail
 refine (C1.out _).mono ?_
 rintro e w1 ⟨rfl, b1⟩
 have R1 := Lib.hid (R0.out.below b1 S0.out)
 have B1 := Lib.hid (below_le B0.out b1)
 clear b1
 obtain ⟨c0, c1, c2, _⟩ := R1.out.cells
 go_wp2_with fail
 refine (C2.out _).mono ?_
 rintro e w2 ⟨rfl, b2⟩
 have B2 := Lib.hid (below_le B1.out b2)
 clear b2
 go_wp2
 go_ret
 exact ⟨rfl, B2.out⟩
theorem tfloat_low (s1 s2 g h : ByteArray) (X y P : Int) (w : World) (hs1 : s1.size + s2.size ≤ 4611686018427387903)
  (C1 : Hid (∀ W, Ct 259 #[.string (s1 ++ s2), .string ⟨#[48]⟩] (.string g) W))
  (C2 : Hid (∀ W, Ct 260 #[.string g, .string ⟨#[48]⟩] (.string h) W))
  (k1 : IntKind.i64.wrap ((g.size : Int) - (s2.size : Int)) = y) (k2 : IntKind.i64.wrap (y + X) = P)
  (t1 : h.toList.isEmpty = false) (t2 : decide (P < -323) = true) :
  Ct 200 #[.agg #[.string s1, .string s2, .int .i64 X]] (.float .f64 0) w := by
 have hs2 : ¬ 9223372036854775807 < s1.size + s2.size := by omega
 have R0 := Lib.hid (show Rc (w.alloc (.cells #[.string s1, .string s2, .int .i64 X] 146)) w.heap.size (.string s1) (.string s2) (.int .i64 X) from heap_alloc_last w _)
 have B0 := Lib.hid (show Below w.heap.size w (w.alloc (.cells #[.string s1, .string s2, .int .i64 X] 146)) from (Below.refl _ _).alloc (Nat.le_refl _) _)
 have S0 := Lib.hid (show w.heap.size < (w.alloc (.cells #[.string s1, .string s2, .int .i64 X] 146)).heap.size by simp)
 clear hs1
 go_enter Tryz.func200, Tryz.ntmps200
 go_wp2_with fail
 refine (C1.out _).mono ?_
 rintro e w1 ⟨rfl, b1⟩
 have R1 := Lib.hid (R0.out.below b1 S0.out)
 have B1 := Lib.hid (below_le B0.out b1)
 clear b1
 obtain ⟨c0, c1, c2, _⟩ := R1.out.cells
 go_wp2_with fail
 refine (C2.out _).mono ?_
 rintro e w2 ⟨rfl, b2⟩
 have B2 := Lib.hid (below_le B1.out b2)
 clear b2
 go_wp2
 go_ret
 exact ⟨rfl, B2.out⟩
theorem tfloat_high (s1 s2 g h : ByteArray) (X y P : Int) (w : World) (hs1 : s1.size + s2.size ≤ 4611686018427387903)
  (C1 : Hid (∀ W, Ct 259 #[.string (s1 ++ s2), .string ⟨#[48]⟩] (.string g) W))
  (C2 : Hid (∀ W, Ct 260 #[.string g, .string ⟨#[48]⟩] (.string h) W))
  (k1 : IntKind.i64.wrap ((g.size : Int) - (s2.size : Int)) = y) (k2 : IntKind.i64.wrap (y + X) = P)
  (t1 : h.toList.isEmpty = false) (t2 : decide (P < -323) = false) (t3 : decide (309 < P) = true) :
  Ct 200 #[.agg #[.string s1, .string s2, .int .i64 X]] (.float .f64 9218868437227405312) w := by
 have hs2 : ¬ 9223372036854775807 < s1.size + s2.size := by omega
 have R0 := Lib.hid (show Rc (w.alloc (.cells #[.string s1, .string s2, .int .i64 X] 146)) w.heap.size (.string s1) (.string s2) (.int .i64 X) from heap_alloc_last w _)
 have B0 := Lib.hid (show Below w.heap.size w (w.alloc (.cells #[.string s1, .string s2, .int .i64 X] 146)) from (Below.refl _ _).alloc (Nat.le_refl _) _)
 have S0 := Lib.hid (show w.heap.size < (w.alloc (.cells #[.string s1, .string s2, .int .i64 X] 146)).heap.size by simp)
 clear hs1
 go_enter Tryz.func200, Tryz.ntmps200
 go_wp2_with fail
 refine (C1.out _).mono ?_
 rintro e w1 ⟨rfl, b1⟩
 have R1 := Lib.hid (R0.out.below b1 S0.out)
 have B1 := Lib.hid (below_le B0.out b1)
 clear b1
 obtain ⟨c0, c1, c2, _⟩ := R1.out.cells
 go_wp2_with fail
 refine (C2.out _).mono ?_
 rintro e w2 ⟨rfl, b2⟩
 have B2 := Lib.hid (below_le B1.out b2)
 clear b2
 have C3 := Lib.hid (fun W => inf1_any W)
 go_wp2_with fail
 refine (C3.out _).mono ?_
 rintro e w' ⟨rfl, rfl⟩
 go_wp2
 go_ret
 exact ⟨rfl, B2.out⟩
theorem tfloat_short (s1 s2 g h : ByteArray) (X y P : Int) (Z : Int) (m F : Nat) (w : World) (hs1 : s1.size + s2.size ≤ 4611686018427387903)
  (C1 : Hid (∀ W, Ct 259 #[.string (s1 ++ s2), .string ⟨#[48]⟩] (.string g) W))
  (C2 : Hid (∀ W, Ct 260 #[.string g, .string ⟨#[48]⟩] (.string h) W))
  (k1 : IntKind.i64.wrap ((g.size : Int) - (s2.size : Int)) = y) (k2 : IntKind.i64.wrap (y + X) = P)
  (t1 : h.toList.isEmpty = false) (t2 : decide (P < -323) = false) (t3 : decide (309 < P) = false) (t4 : decide (800 < (h.size : Int)) = false)
  (k3 : IntKind.i64.wrap (P - (h.size : Int)) = Z)
  (C3 : Hid (∀ W, Cp 262 #[.string h, .int .i64 10] W (NOk m W)))
  (C4 : Hid (∀ W A n c, NV W A n c m → Ct 263 #[.slice A n c, .int .i64 Z] (.float .f64 F) W)) :
  Ct 200 #[.agg #[.string s1, .string s2, .int .i64 X]] (.float .f64 F) w := by
 have hs2 : ¬ 9223372036854775807 < s1.size + s2.size := by omega
 have R0 := Lib.hid (show Rc (w.alloc (.cells #[.string s1, .string s2, .int .i64 X] 146)) w.heap.size (.string s1) (.string s2) (.int .i64 X) from heap_alloc_last w _)
 have B0 := Lib.hid (show Below w.heap.size w (w.alloc (.cells #[.string s1, .string s2, .int .i64 X] 146)) from (Below.refl _ _).alloc (Nat.le_refl _) _)
 have S0 := Lib.hid (show w.heap.size < (w.alloc (.cells #[.string s1, .string s2, .int .i64 X] 146)).heap.size by simp)
 clear hs1
 go_enter Tryz.func200, Tryz.ntmps200
 go_wp2_with fail
 refine (C1.out _).mono ?_
 rintro e w1 ⟨rfl, b1⟩
 have R1 := Lib.hid (R0.out.below b1 S0.out)
 have B1 := Lib.hid (below_le B0.out b1)
 clear b1
 obtain ⟨c0, c1, c2, _⟩ := R1.out.cells
 go_wp2_with fail
 refine (C2.out _).mono ?_
 rintro e w2 ⟨rfl, b2⟩
 have B2 := Lib.hid (below_le B1.out b2)
 clear b2
 go_wp2_with fail
 refine (C3.out _).mono ?_
 rintro e w3 ⟨A, n, c, rfl, g3, b3⟩
 have G3 := Lib.hid g3
 have B3 := Lib.hid (below_le B2.out b3)
 clear g3 b3
 go_wp2_with fail
 refine (C4.out _ _ _ _ G3.out).mono ?_
 rintro e w4 ⟨rfl, b4⟩
 have B4 := Lib.hid (below_le B3.out b4)
 clear b4
 go_wp2
 go_ret
 exact ⟨rfl, B4.out⟩
theorem tfloat_long (s1 s2 g h : ByteArray) (X y P : Int) (Z : Int) (m F : Nat) (w : World) (hs1 : s1.size + s2.size ≤ 4611686018427387903)
  (C1 : Hid (∀ W, Ct 259 #[.string (s1 ++ s2), .string ⟨#[48]⟩] (.string g) W))
  (C2 : Hid (∀ W, Ct 260 #[.string g, .string ⟨#[48]⟩] (.string h) W))
  (k1 : IntKind.i64.wrap ((g.size : Int) - (s2.size : Int)) = y) (k2 : IntKind.i64.wrap (y + X) = P)
  (t1 : h.toList.isEmpty = false) (t2 : decide (P < -323) = false) (t3 : decide (309 < P) = false) (t4 : decide (800 < (h.size : Int)) = true) (t5 : (800 : Int) ≤ (h.size : Int)) (t6 : (h.extract 0 800).size = 800)
  (k3 : IntKind.i64.wrap (P - 801) = Z)
  (C3 : Hid (∀ W, Cp 262 #[.string (h.extract 0 800 ++ ⟨#[49]⟩), .int .i64 10] W (NOk m W)))
  (C4 : Hid (∀ W A n c, NV W A n c m → Ct 263 #[.slice A n c, .int .i64 Z] (.float .f64 F) W)) :
  Ct 200 #[.agg #[.string s1, .string s2, .int .i64 X]] (.float .f64 F) w := by
 have hs2 : ¬ 9223372036854775807 < s1.size + s2.size := by omega
 have R0 := Lib.hid (show Rc (w.alloc (.cells #[.string s1, .string s2, .int .i64 X] 146)) w.heap.size (.string s1) (.string s2) (.int .i64 X) from heap_alloc_last w _)
 have B0 := Lib.hid (show Below w.heap.size w (w.alloc (.cells #[.string s1, .string s2, .int .i64 X] 146)) from (Below.refl _ _).alloc (Nat.le_refl _) _)
 have S0 := Lib.hid (show w.heap.size < (w.alloc (.cells #[.string s1, .string s2, .int .i64 X] 146)).heap.size by simp)
 clear hs1
 go_enter Tryz.func200, Tryz.ntmps200
 go_wp2_with fail
 refine (C1.out _).mono ?_
 rintro e w1 ⟨rfl, b1⟩
 have R1 := Lib.hid (R0.out.below b1 S0.out)
 have B1 := Lib.hid (below_le B0.out b1)
 clear b1
 obtain ⟨c0, c1, c2, _⟩ := R1.out.cells
 go_wp2_with fail
 refine (C2.out _).mono ?_
 rintro e w2 ⟨rfl, b2⟩
 have B2 := Lib.hid (below_le B1.out b2)
 clear b2
 go_wp2_with fail
 refine (C3.out _).mono ?_
 rintro e w3 ⟨A, n, c, rfl, g3, b3⟩
 have G3 := Lib.hid g3
 have B3 := Lib.hid (below_le B2.out b3)
 clear g3 b3
 go_wp2_with fail
 refine (C4.out _ _ _ _ G3.out).mono ?_
 rintro e w4 ⟨rfl, b4⟩
 have B4 := Lib.hid (below_le B3.out b4)
 clear b4
 go_wp2
 go_ret
 exact ⟨rfl, B4.out⟩


end
section
open Go.RowKit
theorem dg_byte {l : List Nat} (h : ∀ c ∈ l, dg10 c = true) : ∀ c ∈ l, c < 256 := fun c hc => by
 have := dg10_iff.1 (h c hc)
 omega
theorem parse_dec (l : List Nat) (w : World) (hd : ∀ c ∈ l, dg10 c = true) (h0 : l ≠ []) (hl : l.length ≤ 801) : Cp 262 #[.string (strOf l), .int .i64 10] w (NOk (num 10 l) w) := by
 have hb := bl_strOf (dg_byte hd)
 have h := parse_ok (strOf l) 10 w (by rw [strOf_size]; omega) (by omega) (by omega) (adB_all (by rw [hb]; exact h0) (by rw [hb]; exact fun c hc => (dgt_ten (hd c hc)).2))
 rw [sv_num, hb] at h
 refine h.mono fun e w' x => NOk.of (lng_bln ?_) x
 have h1 := num_hi hd
 have h2 := bln_mono (Nat.le_of_lt h1)
 have h3 := bln_ten l.length
 omega
theorem bln_dec {l : List Nat} (hd : ∀ c ∈ l, dg10 c = true) (hl : l.length ≤ 801) : bln (num 10 l) ≤ 3300 := by
 have h2 := bln_mono (Nat.le_of_lt (num_hi hd))
 have h3 := bln_ten l.length
 omega
theorem tfloat_any (W F : List Nat) (X : Int) (w : World) (hW : ∀ c ∈ W, dg10 c = true) (hF : ∀ c ∈ F, dg10 c = true) (hs : W.length + F.length ≤ 4611686018427387903) (hX : -10995116277760 < X ∧ X < 10995116277760) :
  Ct 200 #[.agg #[.string (strOf W), .string (strOf F), .int .i64 X]] (.float .f64 (decR (num 10 (W ++ F)) (X - F.length))) w := by
 obtain ⟨f, hf⟩ : ∃ f, W ++ F = f := ⟨_, rfl⟩
 have hd : ∀ c ∈ f, dg10 c = true := by
  intro c hc
  rw [← hf] at hc
  rcases List.mem_append.1 hc with h | h
  ·exact hW c h
  ·exact hF c h
 have hfl : f.length = W.length + F.length := by rw [← hf, List.length_append]
 rw [hf]
 have hg : ∀ c ∈ ldz f, dg10 c = true := fun c hc => hd c (ldz_mem hc)
 have hh : ∀ c ∈ trz (ldz f), dg10 c = true := fun c hc => hg c (trz_mem hc)
 have hgl : (ldz f).length ≤ f.length := (List.dropWhile_sublist _).length_le
 have htl := trz_len (ldz f)
 have hcat : strOf W ++ strOf F = strOf f := by rw [strOf_append, hf]
 have C1 : Hid (∀ V, Ct 259 #[.string (strOf W ++ strOf F), .string ⟨#[48]⟩] (.string (strOf (ldz f))) V) := Lib.hid (fun V => by
  have := trimL48 (strOf f) V
  rw [bl_strOf (dg_byte hd)] at this
  rw [hcat]
  exact this)
 have C2 : Hid (∀ V, Ct 260 #[.string (strOf (ldz f)), .string ⟨#[48]⟩] (.string (strOf (trz (ldz f)))) V) := Lib.hid (fun V => by
  have := trimR48 (strOf (ldz f)) V (by rw [strOf_size]; omega)
  rw [bl_strOf (dg_byte hg)] at this
  exact this)
 have z1 := strOf_size (ldz f)
 have z2 := strOf_size F
 have z3 := strOf_size (trz (ldz f))
 have z4 := strOf_size W
 obtain ⟨P, hP⟩ : ∃ P, ((ldz f).length : Int) + (X - F.length) = P := ⟨_, rfl⟩
 have k1 : IntKind.i64.wrap (((strOf (ldz f)).size : Int) - ((strOf F).size : Int)) = ((ldz f).length : Int) - F.length := by rw [z1, z2]; exact IntWalk.i64_in _ (by omega)
 have k2 : IntKind.i64.wrap (((ldz f).length : Int) - F.length + X) = P := by rw [IntWalk.i64_in _ (by omega)]; omega
 by_cases h0 : trz (ldz f) = []
 ·rw [pway_none h0]
  exact tfloat_none _ _ _ _ X _ P w (by omega) C1 C2 k1 k2 (by rw [h0, Lib.toList_data]; rfl)
 ·have t1 := (str_ne h0).2
  by_cases h1 : P < -323
  ·rw [pway_low hd (by omega)]
   exact tfloat_low _ _ _ _ X _ P w (by omega) C1 C2 k1 k2 t1 (decide_eq_true h1)
  ·by_cases h2 : 309 < P
   ·rw [pway_high hd h0 (by omega)]
    exact tfloat_high _ _ _ _ X _ P w (by omega) C1 C2 k1 k2 t1 (decide_eq_false h1) (decide_eq_true h2)
   ·by_cases h3 : 800 < (trz (ldz f)).length
    ·rw [pway_long hd h3 (by omega), show ((ldz f).length : Int) + (X - F.length) - 801 = P - 801 by omega]
     obtain ⟨l, hl⟩ : ∃ l, (trz (ldz f)).take 800 ++ [49] = l := ⟨_, rfl⟩
     have ll : l.length = 801 := by rw [← hl, List.length_append, List.length_take]; simp; omega
     have ld : ∀ c ∈ l, dg10 c = true := by
      intro c hc
      rw [← hl] at hc
      rcases List.mem_append.1 hc with h | h
      ·exact hh c (List.mem_of_mem_take h)
      ·rw [List.mem_singleton.1 h]; rfl
     have lh : l.head? ≠ some 48 := by
      rw [← hl]
      have := trz_head (lead_head f)
      cases ht : trz (ldz f) with
      | nil => exact absurd ht h0
      | cons a b =>
       rw [show List.dropWhile (fun x => x == 48) f = ldz f from rfl, ht] at this
       exact this
     have l0 : l ≠ [] := fun e => by rw [e] at ll; simp at ll
     have lp : 0 < num 10 l := Nat.lt_of_lt_of_le (ten_pos _) (num_lo ld l0 lh)
     have hstr : (strOf (trz (ldz f))).extract 0 800 ++ (⟨#[49]⟩ : ByteArray) = strOf l := by
      rw [ext_take, bl_strOf (dg_byte hh), ← hl, ← strOf_append]
      rfl
     rw [hl]
     have t5 : (800 : Int) ≤ ((strOf (trz (ldz f))).size : Int) := by rw [z3]; omega
     have t4 : decide (800 < ((strOf (trz (ldz f))).size : Int)) = true := decide_eq_true (by rw [z3]; omega)
     have t6 : ((strOf (trz (ldz f))).extract 0 800).size = 800 := by
      rw [ext_take, bl_strOf (dg_byte hh), strOf_size, List.length_take]
      exact Nat.min_eq_left (by omega)
     have k3 : IntKind.i64.wrap (P - 801) = P - 801 := IntWalk.i64_in _ (by omega)
     have C3 : Hid (∀ V, Cp 262 #[.string ((strOf (trz (ldz f))).extract 0 800 ++ (⟨#[49]⟩ : ByteArray)), .int .i64 10] V (NOk (num 10 l) V)) := Lib.hid (fun V => by
      rw [hstr]
      exact parse_dec l V ld l0 (by omega))
     have C4 : Hid (∀ V A n c, NV V A n c (num 10 l) → Ct 263 #[.slice A n c, .int .i64 (P - 801)] (.float .f64 (decR (num 10 l) (P - 801))) V) := Lib.hid (fun V A n c h => tnearest_any (P - 801) h (bln_dec ld (by omega)) lp (by omega) (by omega))
     exact tfloat_long _ _ _ _ X _ P _ (num 10 l) _ w (by omega) C1 C2 k1 k2 t1 (decide_eq_false h1) (decide_eq_false h2) t4 t5 t6 k3 C3 C4
    ·rw [pway_short, show ((ldz f).length : Int) + (X - F.length) - (trz (ldz f)).length = P - (trz (ldz f)).length by omega]
     have lp : 0 < num 10 (trz (ldz f)) := Nat.lt_of_lt_of_le (ten_pos _) (num_lo hh h0 (trz_head (lead_head f)))
     have C3 : Hid (∀ V, Cp 262 #[.string (strOf (trz (ldz f))), .int .i64 10] V (NOk (num 10 (trz (ldz f))) V)) := Lib.hid (fun V => parse_dec _ V hh h0 (by omega))
     obtain ⟨Z, hZ⟩ : ∃ Z, P - ((trz (ldz f)).length : Int) = Z := ⟨_, rfl⟩
     rw [hZ]
     have C4 : Hid (∀ V A n c, NV V A n c (num 10 (trz (ldz f))) → Ct 263 #[.slice A n c, .int .i64 Z] (.float .f64 (decR (num 10 (trz (ldz f))) Z)) V) := Lib.hid (fun V A n c h => tnearest_any Z h (bln_dec hh (by omega)) lp (by omega) (by omega))
     have k3 : IntKind.i64.wrap (P - ((strOf (trz (ldz f))).size : Int)) = Z := by rw [z3, ← hZ]; exact IntWalk.i64_in _ (by omega)
     have t4 : decide (800 < ((strOf (trz (ldz f))).size : Int)) = false := decide_eq_false (by rw [z3]; omega)
     exact tfloat_short _ _ _ _ X _ P Z (num 10 (trz (ldz f))) _ w (by omega) C1 C2 k1 k2 t1 (decide_eq_false h1) (decide_eq_false h2) t4 k3 C3 C4
theorem tfloat_dec (l : List Nat) (w : World) (hs : l.length ≤ 4611686018427387903) :
  Ct 200 #[.agg #[.string (strOf (dW l)), .string (strOf (dF l)), .int .i64 (dX l)]] (.float .f64 (dV l)) w := by
 have h1 := run_len l
 have h2 : (dF l).length ≤ (aft10 l).length := by
  unfold dF
  split
  ·have := run_len (aft10 l).tail
   rw [List.length_tail] at this
   omega
  ·simp
 refine tfloat_any (dW l) (dF l) (dX l) w (run10_all l) ?_ (by unfold dW; omega) (exV_le _)
 intro c hc
 unfold dF at hc
 split at hc
 ·exact run10_all _ c hc
 ·simp at hc


end
section
open Go.RowKit
theorem fl_decR (N : Nat) : fl N = decR N 0 := by
 obtain ⟨K, hK, hd⟩ := decR_K
 rw [fl_near, near_rnd false (a := K) (b := 0) (by omega), hd, show (0 : Int).toNat = 0 from rfl, show (-(0 : Int)).toNat = 0 from rfl, Nat.pow_zero, Nat.mul_one, word_pos]
theorem decR_top {N : Nat} {D : Nat} (hD : D = 1024) (h : 2 ^ D ≤ N) : decR N 0 = 9218868437227405312 := by
 obtain ⟨K, hK, hd⟩ := decR_K
 rw [hd]
 refine rnd_top (ten_pos _) ?_
 obtain ⟨E, hE⟩ : ∃ E : Nat, E = 2046 := ⟨_, rfl⟩
 have e1 := fmag_make 4503599627370496 E (by omega) (by omega)
 rw [show E * 4503599627370496 + 4503599627370496 = 9218868437227405312 by omega] at e1
 rw [e1, show (0 : Int).toNat = 0 from rfl, show (-(0 : Int)).toNat = 0 from rfl, Nat.pow_zero, Nat.mul_one, Nat.mul_one]
 have h2 : 4503599627370496 * 2 ^ E = 2 ^ D * 2 ^ K := by
  rw [show (4503599627370496 : Nat) = 2 ^ 52 from rfl, ← Nat.pow_add, ← Nat.pow_add]
  exact congrArg (fun k => 2 ^ k) (show 52 + E = D + K by omega)
 rw [h2]
 exact Nat.mul_le_mul_right _ h
theorem dgt_zero {c : Nat} (h : dgt c = 0) : c = 48 := by
 unfold dgt at h
 split at h
 ·omega
 ·split at h
  ·omega
  ·split at h <;> omega
theorem num_lo_r {r : Nat} {g : List Nat} (h0 : g ≠ []) (hh : g.head? ≠ some 48) : r ^ (g.length - 1) ≤ num r g := by
 cases g with
 | nil => exact absurd rfl h0
 | cons c l =>
  have h1 : dgt c ≠ 0 := fun e => hh (by rw [dgt_zero e]; rfl)
  rw [num_cons]
  have h3 : 1 * r ^ l.length ≤ dgt c * r ^ l.length := Nat.mul_le_mul_right _ (by omega)
  simp only [List.length_cons, Nat.add_sub_cancel]
  omega
theorem twhole_top (s g : ByteArray) (r : Nat) (w : World)
  (C1 : Hid (∀ W, Ct 259 #[.string s, .string ⟨#[48]⟩] (.string g) W)) (t1 : decide (1024 < (g.size : Int)) = true) :
  Ct 256 #[.string s, .int .i64 r] (.float .f64 9218868437227405312) w := by
 have C2 := Lib.hid (fun W => inf1_any W)
 go_enter Tryz.func256, Tryz.ntmps256
 go_wp2_with fail
 refine (C1.out _).mono ?_
 rintro e w1 ⟨rfl, b1⟩
 go_wp2_with fail
 refine (C2.out _).mono ?_
 rintro e w' ⟨rfl, rfl⟩
 go_wp2
 go_ret
 exact ⟨rfl, b1⟩
theorem twhole_low (s g : ByteArray) (r N : Nat) (w : World)
  (C1 : Hid (∀ W, Ct 259 #[.string s, .string ⟨#[48]⟩] (.string g) W)) (t1 : decide (1024 < (g.size : Int)) = false)
  (C2 : Hid (∀ W, Cp 262 #[.string s, .int .i64 r] W (NOk N W)))
  (C3 : Hid (∀ W A n c, NV W A n c N → Ct 285 #[.slice A n c] (.float .f64 (fl N)) W)) :
  Ct 256 #[.string s, .int .i64 r] (.float .f64 (fl N)) w := by
 go_enter Tryz.func256, Tryz.ntmps256
 go_wp2_with fail
 refine (C1.out _).mono ?_
 rintro e w1 ⟨rfl, b1⟩
 have B1 := Lib.hid b1
 clear b1
 go_wp2_with fail
 refine (C2.out _).mono ?_
 rintro e w2 ⟨A, n, c, rfl, g2, b2⟩
 have G2 := Lib.hid g2
 have B2 := Lib.hid (below_le B1.out b2)
 clear g2 b2
 go_wp2_with fail
 refine (C3.out _ _ _ _ G2.out).mono ?_
 rintro e w3 ⟨rfl, b3⟩
 have B3 := Lib.hid (below_le B2.out b3)
 clear b3
 go_wp2
 go_ret
 exact ⟨rfl, B3.out⟩
theorem natV_lead (r : Nat) (l : List Nat) : natV r (ldz l) = natV r l := by unfold natV ldz; rw [num_lead]
theorem twhole_any (l : List Nat) (r : Nat) (w : World) (h2 : 2 ≤ r) (h36 : r ≤ 36) (h0 : l ≠ []) (hd : ∀ c ∈ l, dgt c < r) (hb : ∀ c ∈ l, c < 256) (hs : l.length ≤ 4611686018427387903) :
  Ct 256 #[.string (strOf l), .int .i64 r] (.float .f64 (natV r l)) w := by
 have C1 : Hid (∀ V, Ct 259 #[.string (strOf l), .string ⟨#[48]⟩] (.string (strOf (ldz l))) V) := Lib.hid (fun V => by
  have := trimL48 (strOf l) V
  rw [bl_strOf hb] at this
  exact this)
 have z1 := strOf_size (ldz l)
 by_cases h : 1024 < (ldz l).length
 ·have key : natV r l = 9218868437227405312 := by
   rw [← natV_lead]
   obtain ⟨D, hD⟩ : ∃ D : Nat, D = 1024 := ⟨_, rfl⟩
   refine decR_top hD ?_
   refine Nat.le_trans ?_ (num_lo_r (r := r) (fun e => by rw [e] at h; simp at h) (lead_head l))
   exact Nat.le_trans (Nat.pow_le_pow_left h2 D) (Nat.pow_le_pow_right (by omega) (by omega))
  rw [key]
  exact twhole_top _ _ r w C1 (decide_eq_true (by rw [z1]; omega))
 ·have hdl : ∀ c ∈ ldz l, dgt c < r := fun c hc => hd c (ldz_mem hc)
  have hnum : num r (ldz l) = num r l := num_lead r l
  have hbn : bln (num r l) ≤ 30000 := by
   rw [← hnum]
   have a1 := bln_mono (Nat.le_of_lt (num_lt hdl))
   have a2 := bln_pow r (ldz l).length
   have a3 : bln r ≤ 6 := bln_le (by omega)
   have a4 : bln r * (ldz l).length ≤ 6 * 1024 := Nat.mul_le_mul a3 (by omega)
   omega
  have C2 : Hid (∀ V, Cp 262 #[.string (strOf l), .int .i64 r] V (NOk (num r l) V)) := Lib.hid (fun V => by
   have hbl := bl_strOf hb
   have h := parse_ok (strOf l) r V (by rw [strOf_size]; exact hs) h2 h36 (adB_all (by rw [hbl]; exact h0) (by rw [hbl]; exact hd))
   rw [sv_num, hbl] at h
   exact h.mono fun e w' x => NOk.of (lng_bln hbn) x)
  have C3 : Hid (∀ V A n c, NV V A n c (num r l) → Ct 285 #[.slice A n c] (.float .f64 (fl (num r l))) V) := Lib.hid (fun V A n c g => by
   have a1 := small_len hbn
   rw [g.len] at a1
   have := pfloat_any A n c (wds (num r l)) V g.len g.cap (by omega) g.row
   rw [wds_val] at this
   exact this)
  have key : natV r l = fl (num r l) := (fl_decR _).symm
  rw [key]
  exact twhole_low _ _ r _ w C1 (decide_eq_false (by rw [z1]; omega)) C2 C3


end
section
open Go.RowKit
theorem lower_str (l : List Nat) (w : World) (hl : ∀ c ∈ l, c < 128) (hs : l.length ≤ 140737488355328) :
  Ct 255 #[.string (strOf l)] (.string (strOf (l.map lowC))) w := by
 have hb : ∀ c ∈ l, c < 256 := fun c hc => Nat.lt_trans (hl c hc) (by omega)
 have h := Tryz.strings_ToLower_ascii (strOf l) w (by rw [strOf_size]; exact hs) (asc_of (by rw [bl_strOf hb]; exact hl))
 rw [lower_eq (by rw [bl_strOf hb]; exact hl), bl_strOf hb] at h
 exact h
theorem low_lt {l : List Nat} (hl : ∀ c ∈ l, c < 128) : ∀ c ∈ l.map lowC, c < 256 := by
 intro c hc
 obtain ⟨d, hd, rfl⟩ := List.mem_map.1 hc
 have := hl d hd
 unfold lowC
 split <;> omega
theorem cut_low (l : List Nat) (r : Nat) (w : World) (hr : r ≤ 36) (hl : ∀ c ∈ l, c < 128) (hs : l.length ≤ 140737488355328) :
  Ct 254 #[.string (strOf (l.map lowC)), .int .i64 r] (.tuple #[.string (strOf ((l.takeWhile (dgq r)).map lowC)), .string (strOf ((l.dropWhile (dgq r)).map lowC))]) w := by
 have h := tcutDigits_any (strOf (l.map lowC)) r w hr (by rw [strOf_size, List.length_map]; omega)
 rw [bl_strOf (low_lt hl), take_low, drop_low] at h
 exact h
theorem natV_low (r : Nat) (l : List Nat) : natV r (l.map lowC) = natV r l := by unfold natV; rw [num_low]
theorem take_dgq (r : Nat) (l : List Nat) : ∀ c ∈ l.takeWhile (dgq r), dgt c < r := by
 induction l with
 | nil => intro c hc; simp at hc
 | cons d t ih =>
  intro c hc
  rw [List.takeWhile_cons] at hc
  cases hd : dgq r d
  ·rw [hd] at hc; simp at hc
  ·rw [hd] at hc
   simp only [if_true] at hc
   rcases List.mem_cons.1 hc with rfl | h
   ·exact of_decide_eq_true hd
   ·exact ih c h
theorem drop_nil (p : Nat → Bool) : ∀ l : List Nat, l.dropWhile p = [] ↔ l.all p = true
 | [] => by simp
 | c :: l => by
  by_cases h : p c = true
  ·rw [List.dropWhile_cons_of_pos h, List.all_cons, h, Bool.true_and]
   exact drop_nil p l
  ·rw [List.dropWhile_cons_of_neg h, List.all_cons]
   simp [h]
theorem take_all (p : Nat → Bool) : ∀ l : List Nat, l.all p = true → l.takeWhile p = l
 | [], _ => rfl
 | c :: l, h => by
  rw [List.all_cons, Bool.and_eq_true] at h
  rw [List.takeWhile_cons_of_pos h.1, take_all p l h.2]
theorem dgq_hx : dgq 16 = hx16 := rfl
theorem thex_no (s u : ByteArray) (w : World) (C1 : Hid (∀ W, Cq 253 #[.string s] (.tuple #[.string u, .bool false]) W)) :
  Ct 198 #[.string s] (.tuple #[.float .f64 0, .bool false]) w := by
 go_enter Tryz.func198, Tryz.ntmps198
 go_wp2_with fail
 refine (C1.out _).mono ?_
 rintro e w' ⟨rfl, rfl⟩
 go_wp2
 go_ret2
 exact ⟨rfl, Below.refl _ _⟩
theorem thex_not (s u v f q : ByteArray) (w : World) (C1 : Hid (∀ W, Cq 253 #[.string s] (.tuple #[.string u, .bool true]) W))
  (C2 : Hid (∀ W, Ct 255 #[.string u] (.string v) W))
  (C3 : Hid (∀ W, Ct 254 #[.string v, .int .i64 16] (.tuple #[.string f, .string q]) W))
  (t : f.toList.isEmpty = true ∨ (f.toList.isEmpty = false ∧ q.toList.isEmpty = false)) :
  Ct 198 #[.string s] (.tuple #[.float .f64 0, .bool false]) w := by
 rcases t with t1 | ⟨t1, t2⟩
 all_goals
  go_enter Tryz.func198, Tryz.ntmps198
  go_wp2_with fail
  refine (C1.out _).mono ?_
  rintro e w' ⟨rfl, rfl⟩
  go_wp2_with fail
  refine (C2.out _).mono ?_
  rintro e w1 ⟨rfl, b1⟩
  go_wp2_with fail
  refine (C3.out _).mono ?_
  rintro e w2 ⟨rfl, b2⟩
  have B2 := Lib.hid (below_le b1 b2)
  clear b1 b2
  go_wp2
  go_ret2
  exact ⟨rfl, B2.out⟩
theorem thex_yes (s u v f q : ByteArray) (F : Nat) (w : World) (C1 : Hid (∀ W, Cq 253 #[.string s] (.tuple #[.string u, .bool true]) W))
  (C2 : Hid (∀ W, Ct 255 #[.string u] (.string v) W))
  (C3 : Hid (∀ W, Ct 254 #[.string v, .int .i64 16] (.tuple #[.string f, .string q]) W))
  (C4 : Hid (∀ W, Ct 256 #[.string f, .int .i64 16] (.float .f64 F) W))
  (t1 : f.toList.isEmpty = false) (t2 : q.toList.isEmpty = true) :
  Ct 198 #[.string s] (.tuple #[.float .f64 F, .bool true]) w := by
 go_enter Tryz.func198, Tryz.ntmps198
 go_wp2_with fail
 refine (C1.out _).mono ?_
 rintro e w' ⟨rfl, rfl⟩
 go_wp2_with fail
 refine (C2.out _).mono ?_
 rintro e w1 ⟨rfl, b1⟩
 go_wp2_with fail
 refine (C3.out _).mono ?_
 rintro e w2 ⟨rfl, b2⟩
 have B2 := Lib.hid (below_le b1 b2)
 clear b1 b2
 go_wp2_with fail
 refine (C4.out _).mono ?_
 rintro e w3 ⟨rfl, b3⟩
 have B3 := Lib.hid (below_le B2.out b3)
 clear b3
 go_wp2
 go_ret2
 exact ⟨rfl, B3.out⟩


end
section
open Go.RowKit
theorem thexadecimal_any (l : List Nat) (w : World) (hl : ∀ c ∈ l, c < 128) (hs : l.length ≤ 140737488355328) :
  Ct 198 #[.string (strOf l)] (.tuple #[.float .f64 (if hxB l = true then natV 16 (l.drop 2) else 0 : Nat), .bool (hxB l)]) w := by
 have hb : ∀ c ∈ l, c < 256 := fun c hc => Nat.lt_trans (hl c hc) (by omega)
 have C1 : ∀ W, Cq 253 #[.string (strOf l)] (.tuple #[.string (strOf (if hxA l = true then l.drop 2 else l)), .bool (hxA l)]) W := by
  intro W
  have := tcutHex_any (strOf l) W
  rw [bl_strOf hb] at this
  exact this
 obtain ⟨u, hu⟩ : ∃ u, l.drop 2 = u := ⟨_, rfl⟩
 have hul : ∀ c ∈ u, c < 128 := fun c hc => hl c (by rw [← hu] at hc; exact List.mem_of_mem_drop hc)
 have hus : u.length ≤ 140737488355328 := by rw [← hu, List.length_drop]; omega
 have hx : hxB l = (hxA l && !u.isEmpty && u.all hx16) := by unfold hxB; rw [hu]
 rw [hu]
 rw [hu] at C1
 cases ha : hxA l
 ·rw [ha] at C1 hx
  rw [hx, Bool.false_and, Bool.false_and, if_neg (by simp)]
  exact thex_no _ _ w (Lib.hid C1)
 ·rw [ha, if_pos rfl] at C1
  rw [ha, Bool.true_and] at hx
  have C2 := Lib.hid (fun W => lower_str u W hul hus)
  have C3 := Lib.hid (fun W => cut_low u 16 W (by omega) hul hus)
  have ne : ∀ R : List Nat, R ≠ [] → (strOf R).toList.isEmpty = false := fun R hR => (str_ne hR).2
  have em : (strOf []).toList.isEmpty = true := by rw [Lib.toList_data]; rfl
  by_cases h1 : u.takeWhile (dgq 16) = []
  ·have hn : hxB l = false := by
    rw [hx]
    cases u with
    | nil => rfl
    | cons c t =>
     have : dgq 16 c = false := by
      cases h : dgq 16 c
      ·rfl
      ·rw [List.takeWhile_cons_of_pos h] at h1; cases h1
     show (true && (hx16 c && t.all hx16)) = false
     rw [← dgq_hx, this]
     rfl
   rw [hn, if_neg (by simp)]
   exact thex_not _ _ _ _ _ w (Lib.hid C1) C2 C3 (Or.inl (by rw [h1]; exact em))
  ·by_cases h2 : u.dropWhile (dgq 16) = []
   ·have h3 := (drop_nil _ _).1 h2
    have h4 := take_all _ _ h3
    have hu0 : u ≠ [] := fun e => h1 (by rw [e]; rfl)
    have hn : hxB l = true := by
     rw [hx, ← dgq_hx, h3, Bool.and_true]
     cases u with
     | nil => exact absurd rfl hu0
     | cons => rfl
    rw [hn, if_pos rfl]
    rw [h4, h2] at C3
    have hd : ∀ c ∈ u, dgt c < 16 := by
     have := take_dgq 16 u
     rw [h4] at this
     exact this
    have C4 : ∀ W, Ct 256 #[.string (strOf (u.map lowC)), .int .i64 16] (.float .f64 (natV 16 u)) W := by
     intro W
     have := twhole_any (u.map lowC) 16 W (by omega) (by omega) (by simpa using hu0) (by
      intro c hc
      obtain ⟨d, hd2, rfl⟩ := List.mem_map.1 hc
      rw [dgt_low]
      exact hd d hd2) (low_lt hul) (by rw [List.length_map]; omega)
     rw [natV_low] at this
     exact this
    exact thex_yes _ _ _ _ _ _ w (Lib.hid C1) C2 C3 (Lib.hid C4) (ne _ (by simpa using hu0)) em
   ·have hn : hxB l = false := by
     rw [hx, ← dgq_hx]
     cases h3 : u.all (dgq 16)
     ·rw [Bool.and_false]
     ·exact absurd ((drop_nil _ _).2 h3) h2
    rw [hn, if_neg (by simp)]
    exact thex_not _ _ _ _ _ w (Lib.hid C1) C2 C3 (Or.inr ⟨ne _ (by simpa using h1), ne _ (by simpa using h2)⟩)

end
section
open Go.RowKit
theorem bld_below {B : Nat} {l : List UInt8} {w w' : World} (h : Bld B l w) (hb : Below w.heap.size w w') : Bld B l w' := by
 have hg : w.grownBy w' none := ⟨hb.os, hb.tape, hb.output, hb.size, fun k hk _ => hb.block k hk⟩
 have key : ∀ p, Lib.BuilderAtF 85 5 B B p (Lib.byteCells l) w → Lib.BuilderAtF 85 5 B B p (Lib.byteCells l) w' := by
  intro p hA
  have hlt := Lib.BuilderAtF.lt hA
  obtain ⟨hB, v, hbk, hown, hne⟩ := hA
  exact ⟨hB, v, by rw [hb.block B hlt]; exact hbk, hown.kept hg (by cases v.ownBlock <;> simp), hne⟩
 rcases h with h | h
 ·exact .inl (key _ h)
 ·exact .inr (key _ h)
def nr0 (u : Nat) : Nat := if 127 < u then 0 else u
theorem nr0_lt (u : Nat) : nr0 u < 128 := by unfold nr0; split <;> omega
theorem row_others {w w' : World} {R B n : Nat} {f : Nat → Value} (h : w.rowIs R 52 n f) (ho : Lib.OthersKept 5 (some B) w w') (hR : R ≠ B) : w'.rowIs R 52 n f := by
 obtain ⟨c, hb, hn, hc⟩ := h
 refine ⟨c, ho R _ hb (by simpa using hR) (fun c' fz e => ?_), hn, hc⟩
 injection e with _ e2 _
 exact absurd e2 (by decide)
theorem cells_snoc (l : List UInt8) (u : Nat) (hu : u < 256) : Lib.byteCells l ++ [Value.int .u8 (u : Int)] = Lib.byteCells (l ++ [UInt8.ofNat u]) := by
 rw [Lib.byteCells_append]
 simp [Lib.byteCells]
 omega
theorem tnarrow_any (s : ByteArray) (w : World) (hs : s.size ≤ 140737488355328) :
  Ct 197 #[.string s] (.string (strOf (nrw 0 (us s)))) w := by
 have hl := ln_le s
 have hs63 : s.size ≤ maxLen := by unfold maxLen; omega
 have hm : ((ln s : Nat) : Int) ≤ 70368744177664 := by omega
 have H63 := Lib.hid hs63
 have C1 := Lib.hid (fun W => len_any s W H63.out)
 have C2 := Lib.hid (fun W => units_any s W hs)
 have HS := Lib.hid (show ln s ≤ 70368744177664 by omega)
 have hg : Cp 83 #[.pointer (some ⟨w.heap.size, 0, none⟩), .int .i64 (ln s : Nat)] (w.alloc (.cells #[.pointer none, .slice none 0 0] 85)) fun e w' => e = .returned (.tuple #[]) ∧ (Lib.BuilderAt 85 5 w.heap.size w.heap.size (.pointer (some ⟨w.heap.size, 0, none⟩)) [] w' ∧ Below w.heap.size (w.alloc (.cells #[.pointer none, .slice none 0 0] 85)) w') :=
  Tryz.Builder_Grow_fresh w.heap.size w.heap.size (ln s) _ (Nat.le_refl _) (alloc_new w _) (by simp) (by omega)
 have HG := Lib.hid hg
 clear hl hs hs63 hg
 go_enter Tryz.func197, Tryz.ntmps197
 go_wp2_with fail
 refine (C1.out _).mono ?_
 rintro e w' ⟨rfl, rfl⟩
 go_wp2_with fail
 refine HG.out.mono ?_
 rintro e w1 ⟨rfl, hb1, bl1⟩
 have hbl : Below w.heap.size w w1 := ((Below.refl w.heap.size w).alloc (Nat.le_refl _) _).trans bl1
 have I1 := Lib.hid (show Bld w.heap.size [] w1 from Lib.IsBuilderF.of (.inr hb1))
 have B1 := Lib.hid hbl
 clear hb1 bl1 hbl
 go_wp2_with fail
 refine (C2.out _).mono ?_
 rintro e w2 ⟨rfl, hr2, b2⟩
 have R2 := Lib.hid hr2
 have hlt1 := bld_lt I1.out
 have I2 := Lib.hid (bld_below I1.out b2)
 have B2 := Lib.hid (below_le B1.out b2)
 have HR := Lib.hid (show w1.heap.size ≠ w.heap.size by omega)
 obtain ⟨R, hR⟩ : ∃ R, w1.heap.size = R := ⟨_, rfl⟩
 rw [hR] at R2 HR ⊢
 clear hr2 b2 hlt1 hR
 go_wp2
 go_loopw [12] (fun i wr => ∃ k : Nat, i = .int .i64 k ∧ k ≤ ln s ∧ Hid (Bld w.heap.size ((((us s).take k).map nr0).map UInt8.ofNat) wr) ∧ Hid (wr.rowIs R 52 (ln s) (fun j => .int .u16 (un s j : Nat))) ∧ Hid (Below w.heap.size w wr)) (fun i _ => ln s - (intOf i).toNat)
 case atStart => exact ⟨0, rfl, Nat.zero_le _, I2, R2, B2⟩
 case round =>
  obtain ⟨k, rfl, hk, I3, R3, B3⟩ := hrel
  by_cases hlt : k < ln s
  ·have hcell : wr.cell? ⟨R, k, none⟩ = some (.int .u16 (un s k : Nat)) := R3.out.cell hlt
   have hul := un_lt s k
   have HST := Lib.hid (us_take_succ s k hlt)
   obtain ⟨u, hu⟩ : ∃ u, un s k = u := ⟨_, rfl⟩
   rw [hu] at hcell hul HST
   have hc1 := nr0_lt u
   have hlen : (Lib.byteCells ((((us s).take k).map nr0).map UInt8.ofNat)).length + 1 ≤ 140737488355328 := by
    rw [Lib.byteCells_length, List.length_map, List.length_map, List.length_take]
    have := HS.out
    omega
   have C4 := Lib.hid (fun c : Int => Tryz.Builder_WriteByte_k w.heap.size w.heap.size _ c wr I3.out hlen B3.out.size)
   have KEY := Lib.hid (show ∀ w', Lib.BuilderAtF 85 5 w.heap.size w.heap.size (.pointer (some ⟨w.heap.size, 0, none⟩)) (Lib.byteCells ((((us s).take k).map nr0).map UInt8.ofNat) ++ [.int .u8 (nr0 u : Nat)]) w' → Bld w.heap.size ((((us s).take (k + 1)).map nr0).map UInt8.ofNat) w' from fun w' h => by
    rw [cells_snoc _ _ (by omega)] at h
    rw [HST.out, List.map_append, List.map_append]
    exact Or.inr h)
   have a1 : (0 : Int) ≤ (k : Int) := by omega
   have a2 : (k : Int) < (ln s : Int) := by omega
   clear hlen
   by_cases hb : 127 < u
   ·have e0 : nr0 u = 0 := if_pos hb
    rw [e0] at KEY
    have t1 : decide ((127 : Int) < (u : Int)) = true := decide_eq_true (by omega)
    clear hu hul hc1 hb e0
    go_wp2_with fail
    refine (C4.out 0).mono ?_
    rintro e w3 ⟨rfl, hI, hb3, ho3⟩
    have I4 := Lib.hid (KEY.out _ hI)
    have R4 := Lib.hid (row_others R3.out ho3 HR.out)
    have B4 := Lib.hid (B3.out.trans hb3)
    clear hI hb3 ho3
    go_wp2
    exact ⟨⟨k + 1, by go_num, by omega, I4, R4, B4⟩, by simp [intOf]; omega⟩
   ·have e0 : nr0 u = u := if_neg hb
    rw [e0] at KEY
    have t1 : decide ((127 : Int) < (u : Int)) = false := decide_eq_false (by omega)
    have k1 : IntKind.u8.wrap (u : Int) = (u : Int) := IntWalk.u8_in _ (by omega)
    clear hu hul hc1 hb e0
    go_wp2_with fail
    refine (C4.out _).mono ?_
    rintro e w3 ⟨rfl, hI, hb3, ho3⟩
    have I4 := Lib.hid (KEY.out _ hI)
    have R4 := Lib.hid (row_others R3.out ho3 HR.out)
    have B4 := Lib.hid (B3.out.trans hb3)
    clear hI hb3 ho3
    go_wp2
    exact ⟨⟨k + 1, by go_num, by omega, I4, R4, B4⟩, by simp [intOf]; omega⟩
  ·obtain ⟨T, hT⟩ : ∃ T, (((us s).take k).map nr0).map UInt8.ofNat = T := ⟨_, rfl⟩
   have I5 := I3.out
   rw [hT] at I5
   have hS := Lib.hid (Tryz.Builder_String_any_k w.heap.size w.heap.size T wr I5 B3.out.size)
   have HZ := Lib.hid (show (⟨T.toArray⟩ : ByteArray) = strOf (nrw 0 (us s)) from by
    rw [← hT, show (us s).take k = us s by rw [show k = ln s by omega]; exact us_take_all s]
    rfl)
   clear hT I5 I3
   go_wp2_with (go_at_call 61; refine hS.out.mono ?_; rintro e w2 ⟨rfl, _, hb2, _⟩)
   go_ret
   exact ⟨by rw [← HZ.out]; rfl, B3.out.trans hb2⟩


end
section
open Go.RowKit
theorem nrw_len (z : Nat) (l : List Nat) : (nrw z l).length = l.length := by unfold nrw; rw [List.length_map]
theorem nrw_size {s : ByteArray} (h : s.size ≤ 140737488355328) : (nrw 0 (us s)).length ≤ 140737488355328 := by
 rw [nrw_len, us_length]
 have := ln_le s
 omega
theorem em_str : (strOf []).toList.isEmpty = true := by rw [Lib.toList_data]; rfl

end
section
open Go.RowKit
def octB (l : List Nat) : Bool := l.head? == some 48 && (l.tail.head?.map dg10 == some true)
theorem oct_whole (l : List Nat) : octB l = true ↔ 1 < (dW l).length ∧ (dW l).head? = some 48 := by
 unfold octB dW run10
 cases l with
 | nil => simp
 | cons c t =>
  by_cases hc : c = 48
  ·subst hc
   rw [List.takeWhile_cons_of_pos (by decide)]
   cases t with
   | nil => simp
   | cons d q =>
    cases hd : dg10 d
    ·rw [List.takeWhile_cons_of_neg (by rw [hd]; simp)]; simp [hd]
    ·rw [List.takeWhile_cons_of_pos hd]; simp [hd]
  ·constructor
   ·intro h; simp [hc] at h
   ·rintro ⟨_, h⟩
    by_cases hg : dg10 c = true
    ·rw [List.takeWhile_cons_of_pos hg] at h; simp at h; exact absurd h hc
    ·rw [List.takeWhile_cons_of_neg hg] at h; simp at h
theorem lit_eq (l : List Nat) : litB l = (hxB l || (dB l && (dR l).isEmpty && !octB l)) := rfl
theorem tLiteral_hex (s l : ByteArray) (H : Nat) (w : World)
  (C2 : Hid (∀ W, Ct 197 #[.string s] (.string l) W))
  (C3 : Hid (∀ W, Ct 198 #[.string l] (.tuple #[.float .f64 H, .bool true]) W)) :
  Ct 108 #[.string s] (.tuple #[.float .f64 H, .bool true]) w := by
 go_enter Tryz.func108, Tryz.ntmps108
 go_wp2_with fail
 refine (C2.out _).mono ?_
 rintro e w1 ⟨rfl, b1⟩
 have B1 := Lib.hid b1
 clear b1
 go_wp2_with fail
 refine (C3.out _).mono ?_
 rintro e w2 ⟨rfl, b2⟩
 have B2 := Lib.hid (below_le B1.out b2)
 clear b2
 go_wp2
 go_ret2
 exact ⟨rfl, B2.out⟩
theorem tLiteral_none (s l : ByteArray) (w : World)
  (C2 : Hid (∀ W, Ct 197 #[.string s] (.string l) W))
  (C3 : Hid (∀ W, Ct 198 #[.string l] (.tuple #[.float .f64 0, .bool false]) W))
  (C4 : Hid (∀ W, Ct 199 #[.string l] (.tuple #[.agg #[.string ⟨#[]⟩, .string ⟨#[]⟩, .int .i64 0], .string ⟨#[]⟩, .bool false]) W)) :
  Ct 108 #[.string s] (.tuple #[.float .f64 0, .bool false]) w := by
 go_enter Tryz.func108, Tryz.ntmps108
 go_wp2_with fail
 refine (C2.out _).mono ?_
 rintro e w1 ⟨rfl, b1⟩
 have B1 := Lib.hid b1
 clear b1
 go_wp2_with fail
 refine (C3.out _).mono ?_
 rintro e w2 ⟨rfl, b2⟩
 have B2 := Lib.hid (below_le B1.out b2)
 clear b2
 go_wp2_with fail
 refine (C4.out _).mono ?_
 rintro e w3 ⟨rfl, b3⟩
 have B3 := Lib.hid (alloc_below (.cells #[.string ⟨#[]⟩, .string ⟨#[]⟩, .int .i64 0] 146) (below_le B2.out b3))
 clear b3
 go_wp2
 go_ret2
 exact ⟨rfl, B3.out⟩
theorem tLiteral_a (s l p q r : ByteArray) (X : Int) (w : World)
  (C2 : Hid (∀ W, Ct 197 #[.string s] (.string l) W))
  (C3 : Hid (∀ W, Ct 198 #[.string l] (.tuple #[.float .f64 0, .bool false]) W))
  (C4 : Hid (∀ W, Ct 199 #[.string l] (.tuple #[.agg #[.string p, .string q, .int .i64 X], .string r, .bool true]) W))
  (t1 : r.toList.isEmpty = false) :
  Ct 108 #[.string s] (.tuple #[.float .f64 0, .bool false]) w := by
 go_enter Tryz.func108, Tryz.ntmps108
 go_wp2_with fail
 refine (C2.out _).mono ?_
 rintro e w1 ⟨rfl, b1⟩
 have B1 := Lib.hid b1
 clear b1
 go_wp2_with fail
 refine (C3.out _).mono ?_
 rintro e w2 ⟨rfl, b2⟩
 have B2 := Lib.hid (below_le B1.out b2)
 clear b2
 go_wp2_with fail
 refine (C4.out _).mono ?_
 rintro e w3 ⟨rfl, b3⟩
 have B3 := Lib.hid (alloc_below (.cells #[.string p, .string q, .int .i64 X] 146) (below_le B2.out b3))
 clear b3
 go_wp2
 go_ret2
 exact ⟨rfl, B3.out⟩
theorem tLiteral_b (s l p q r : ByteArray) (X : Int) (w : World)
  (C2 : Hid (∀ W, Ct 197 #[.string s] (.string l) W))
  (C3 : Hid (∀ W, Ct 198 #[.string l] (.tuple #[.float .f64 0, .bool false]) W))
  (C4 : Hid (∀ W, Ct 199 #[.string l] (.tuple #[.agg #[.string p, .string q, .int .i64 X], .string r, .bool true]) W))
  (t1 : r.toList.isEmpty = true) (t2 : decide (1 < (p.size : Int)) = true) (h0 : 0 < p.size) (t3 : (((p[0]'h0).toNat : Int) == 48) = true) :
  Ct 108 #[.string s] (.tuple #[.float .f64 0, .bool false]) w := by
 go_enter Tryz.func108, Tryz.ntmps108
 go_wp2_with fail
 refine (C2.out _).mono ?_
 rintro e w1 ⟨rfl, b1⟩
 have B1 := Lib.hid b1
 clear b1
 go_wp2_with fail
 refine (C3.out _).mono ?_
 rintro e w2 ⟨rfl, b2⟩
 have B2 := Lib.hid (below_le B1.out b2)
 clear b2
 go_wp2_with fail
 refine (C4.out _).mono ?_
 rintro e w3 ⟨rfl, b3⟩
 have B3 := Lib.hid (alloc_below (.cells #[.string p, .string q, .int .i64 X] 146) (below_le B2.out b3))
 clear b3
 go_wp2
 go_ret2
 exact ⟨rfl, B3.out⟩
theorem tLiteral_c (s l p q r : ByteArray) (X : Int) (F : Nat) (w : World)
  (C2 : Hid (∀ W, Ct 197 #[.string s] (.string l) W))
  (C3 : Hid (∀ W, Ct 198 #[.string l] (.tuple #[.float .f64 0, .bool false]) W))
  (C4 : Hid (∀ W, Ct 199 #[.string l] (.tuple #[.agg #[.string p, .string q, .int .i64 X], .string r, .bool true]) W))
  (C5 : Hid (∀ W, Ct 200 #[.agg #[.string p, .string q, .int .i64 X]] (.float .f64 F) W))
  (t1 : r.toList.isEmpty = true) (t2 : decide (1 < (p.size : Int)) = false) :
  Ct 108 #[.string s] (.tuple #[.float .f64 F, .bool true]) w := by
 go_enter Tryz.func108, Tryz.ntmps108
 go_wp2_with fail
 refine (C2.out _).mono ?_
 rintro e w1 ⟨rfl, b1⟩
 have B1 := Lib.hid b1
 clear b1
 go_wp2_with fail
 refine (C3.out _).mono ?_
 rintro e w2 ⟨rfl, b2⟩
 have B2 := Lib.hid (below_le B1.out b2)
 clear b2
 go_wp2_with fail
 refine (C4.out _).mono ?_
 rintro e w3 ⟨rfl, b3⟩
 have B3 := Lib.hid (alloc_below (.cells #[.string p, .string q, .int .i64 X] 146) (below_le B2.out b3))
 clear b3
 go_wp2_with fail
 refine (C5.out _).mono ?_
 rintro e w4 ⟨rfl, b4⟩
 have B4 := Lib.hid (below_le B3.out b4)
 clear b4
 go_wp2
 go_ret2
 exact ⟨rfl, B4.out⟩
theorem tLiteral_d (s l p q r : ByteArray) (X : Int) (F : Nat) (w : World)
  (C2 : Hid (∀ W, Ct 197 #[.string s] (.string l) W))
  (C3 : Hid (∀ W, Ct 198 #[.string l] (.tuple #[.float .f64 0, .bool false]) W))
  (C4 : Hid (∀ W, Ct 199 #[.string l] (.tuple #[.agg #[.string p, .string q, .int .i64 X], .string r, .bool true]) W))
  (C5 : Hid (∀ W, Ct 200 #[.agg #[.string p, .string q, .int .i64 X]] (.float .f64 F) W))
  (t1 : r.toList.isEmpty = true) (t2 : decide (1 < (p.size : Int)) = true) (h0 : 0 < p.size) (t3 : (((p[0]'h0).toNat : Int) == 48) = false) :
  Ct 108 #[.string s] (.tuple #[.float .f64 F, .bool true]) w := by
 go_enter Tryz.func108, Tryz.ntmps108
 go_wp2_with fail
 refine (C2.out _).mono ?_
 rintro e w1 ⟨rfl, b1⟩
 have B1 := Lib.hid b1
 clear b1
 go_wp2_with fail
 refine (C3.out _).mono ?_
 rintro e w2 ⟨rfl, b2⟩
 have B2 := Lib.hid (below_le B1.out b2)
 clear b2
 go_wp2_with fail
 refine (C4.out _).mono ?_
 rintro e w3 ⟨rfl, b3⟩
 have B3 := Lib.hid (alloc_below (.cells #[.string p, .string q, .int .i64 X] 146) (below_le B2.out b3))
 clear b3
 go_wp2_with fail
 refine (C5.out _).mono ?_
 rintro e w4 ⟨rfl, b4⟩
 have B4 := Lib.hid (below_le B3.out b4)
 clear b4
 go_wp2
 go_ret2
 exact ⟨rfl, B4.out⟩
theorem head_at {l : List Nat} (hl : ∀ c ∈ l, c < 256) (h : 0 < (strOf l).size) : l.head? = some ((strOf l)[0]'h).toNat := by
 have h1 := bl_get (strOf l) 0 h
 rw [bl_strOf hl] at h1
 rw [List.head?_eq_getElem?]
 exact h1
theorem tLiteral_any (s : ByteArray) (w : World) (hs : s.size ≤ 140737488355328) :
  Ct 108 #[.string s] (.tuple #[.float .f64 (litV (nrw 0 (us s))), .bool (litB (nrw 0 (us s)))]) w := by
 have hl := nrw_lt (z := 0) (by omega) (us s)
 have hln := nrw_size (s := s) hs
 obtain ⟨l, hll⟩ : ∃ l, nrw 0 (us s) = l := ⟨_, rfl⟩
 have C2 := fun W => tnarrow_any s W hs
 rw [hll] at C2 hl hln ⊢
 have hb : ∀ c ∈ l, c < 256 := fun c hc => Nat.lt_trans (hl c hc) (by omega)
 have C3 := fun W => thexadecimal_any l W hl hln
 unfold litV
 rw [lit_eq]
 cases hx : hxB l
 ·rw [hx] at C3
  simp only [Bool.false_eq_true, if_false] at C3
  simp only [Bool.false_eq_true, if_false, Bool.false_or]
  cases hd : dB l
  ·simp only [Bool.false_and, Bool.false_eq_true, if_false]
   exact tLiteral_none _ _ w (Lib.hid C2) (Lib.hid C3) (Lib.hid (fun W => tcutDecimal_no (strOf l) W (by rw [strOf_size]; omega) (by rw [bl_strOf hb]; exact hd)))
  ·have C4 : ∀ W, Ct 199 #[.string (strOf l)] (.tuple #[.agg #[.string (strOf (dW l)), .string (strOf (dF l)), .int .i64 (dX l)], .string (strOf (dR l)), .bool true]) W := by
    intro W
    have := tcutDecimal_yes (strOf l) W (by rw [strOf_size]; omega) (by rw [bl_strOf hb]; exact hd)
    rw [bl_strOf hb] at this
    exact this
   have C5 := fun W => tfloat_dec l W (by omega)
   have hWb : ∀ c ∈ dW l, c < 256 := fun c hc => hb c (run_sub c hc)
   have hsz := strOf_size (dW l)
   rw [Bool.true_and]
   by_cases hr : dR l = []
   ·rw [hr, List.isEmpty_nil, Bool.true_and]
    rw [hr] at C4
    by_cases h1 : 1 < (dW l).length
    ·have h0 : 0 < (strOf (dW l)).size := by omega
     have hh := head_at hWb h0
     cases ho : octB l
     ·simp only [Bool.not_false, if_true]
      refine tLiteral_d _ _ _ _ _ _ _ w (Lib.hid C2) (Lib.hid C3) (Lib.hid C4) (Lib.hid C5) em_str (decide_eq_true (by omega)) h0 ?_
      rw [beq_eq_false_iff_ne]
      intro e
      have : octB l = true := (oct_whole l).2 ⟨h1, by rw [hh]; congr 1; omega⟩
      rw [ho] at this
      cases this
     ·simp only [Bool.not_true, Bool.false_eq_true, if_false]
      have h2 := ((oct_whole l).1 ho).2
      refine tLiteral_b _ _ _ _ _ _ w (Lib.hid C2) (Lib.hid C3) (Lib.hid C4) em_str (decide_eq_true (by omega)) h0 ?_
      rw [hh] at h2
      have := Option.some.inj h2
      rw [beq_iff_eq]
      omega
    ·have ho : octB l = false := by
      cases h : octB l
      ·rfl
      ·exact absurd ((oct_whole l).1 h).1 h1
     rw [ho]
     simp only [Bool.not_false, if_true]
     exact tLiteral_c _ _ _ _ _ _ _ w (Lib.hid C2) (Lib.hid C3) (Lib.hid C4) (Lib.hid C5) em_str (decide_eq_false (by omega))
   ·have he : (dR l).isEmpty = false := by
     cases h : dR l with
     | nil => exact absurd h hr
     | cons => rfl
    rw [he]
    simp only [Bool.false_and, Bool.false_eq_true, if_false]
    exact tLiteral_a _ _ _ _ _ _ w (Lib.hid C2) (Lib.hid C3) (Lib.hid C4) (str_ne hr).2
 ·rw [hx] at C3
  simp only [if_true] at C3
  simp only [if_true, Bool.true_or]
  exact tLiteral_hex _ _ _ w (Lib.hid C2) (Lib.hid C3)


end
section
open Go.RowKit
theorem uL_drop : ∀ (i : Nat) (l : List UInt8), uL (l.drop (2 * i)) = (uL l).drop i
 | 0, l => rfl
 | i + 1, [] => by simp [uL]
 | i + 1, [a] => by
  have : 2 * (i + 1) = 2 * i + 1 + 1 := by omega
  rw [this, List.drop_succ_cons, List.drop_nil]
  simp [uL]
 | i + 1, a :: b :: l => by
  have : 2 * (i + 1) = 2 * i + 1 + 1 := by omega
  rw [this, List.drop_succ_cons, List.drop_succ_cons, uL_drop i l, uL, List.drop_succ_cons]
theorem uL_take : ∀ (i : Nat) (l : List UInt8), uL (l.take (2 * i)) = (uL l).take i
 | 0, l => by simp [uL]
 | i + 1, [] => by simp [uL]
 | i + 1, [a] => by
  have : 2 * (i + 1) = 2 * i + 1 + 1 := by omega
  rw [this, List.take_succ_cons, List.take_nil]
  simp [uL]
 | i + 1, a :: b :: l => by
  have : 2 * (i + 1) = 2 * i + 1 + 1 := by omega
  rw [this, List.take_succ_cons, List.take_succ_cons, uL, uL_take i l, uL, List.take_succ_cons]
theorem us_part (s : ByteArray) (a b : Nat) : us (s.extract (2 * a) (2 * b)) = ((us s).drop a).take (b - a) := by
 unfold us
 rw [Lib.extract_data, show 2 * b - 2 * a = 2 * (b - a) by omega, uL_take, uL_drop]
theorem us_empty : us { data := #[] } = [] := rfl
theorem us_slS (s : ByteArray) (a b : Nat) (hb : b ≤ ln s) : us (slS s a b) = ((us s).drop a).take (b - a) := by
 rcases Nat.lt_or_ge a b with h | h
 ·rw [slS_mid s a b (by omega) (by omega) (by omega), Int.toNat_natCast, Int.toNat_natCast, us_part]
 ·have : slS s a b = { data := #[] } := by
   unfold slS
   rw [if_neg (by omega)]
  rw [this, us_empty, show b - a = 0 by omega, List.take_zero]
end
section
open Go.RowKit
theorem us_bL {l : List Nat} (h : ∀ u ∈ l, u < 65536) : us ⟨(bL l).toArray⟩ = l := by
 unfold us
 exact uL_bL l h
theorem even_bL {x : ByteArray} (h : x.size = 2 * ln x) : ⟨(bL (us x)).toArray⟩ = x := by
 apply ByteArray.ext
 apply Array.toList_inj.1
 show bL (us x) = x.data.toList
 unfold us
 rw [bL_uL, List.take_of_length_le]
 have h1 : x.data.toList.length = x.size := by rw [Lib.size_eq]
 unfold ln at h
 omega
theorem slS_bL (s : ByteArray) (k n : Nat) (h : k + n ≤ ln s) : slS s (k : Int) ((k + n : Nat) : Int) = ⟨(bL (((us s).drop k).take n)).toArray⟩ := by
 have h1 := us_slS s k (k + n) h
 rw [Nat.add_sub_cancel_left] at h1
 rw [← h1]
 refine (even_bL ?_).symm
 have h2 := congrArg List.length h1
 rw [us_length] at h2
 have h3 := ln_le s
 by_cases hn : n = 0
 ·subst hn
  have : slS s (k : Int) ((k + 0 : Nat) : Int) = ⟨#[]⟩ := by
   unfold slS
   rw [if_neg (by omega)]
  rw [this]
  rfl
 ·rw [slS_mid s k ((k + n : Nat) : Int) (by omega) (by omega) (by omega)]
  have h4 : (s.extract (2 * (k : Int).toNat) (2 * ((k + n : Nat) : Int).toNat)).size = 2 * n := by
   rw [ByteArray.size_extract]
   omega
  unfold ln
  rw [h4]
  omega
theorem nrw_low {z : Nat} {l : List Nat} (h : ∀ c ∈ l, c < 128) : nrw z l = l := by
 unfold nrw
 have : ∀ c ∈ l, (if 127 < c then z else c) = c := fun c hc => if_neg (by have := h c hc; omega)
 rw [List.map_congr_left this]
 simp
theorem dg_low {c : Nat} (h : dg10 c = true) : c < 128 := by
 unfold dg10 at h
 simp at h
 omega
theorem hx_low {c : Nat} (h : hx16 c = true) : c < 128 := by
 unfold hx16 at h
 have h : dgt c < 16 := by simpa using h
 unfold dgt at h
 repeat (first | omega | split at h)
theorem tw_all {f : Nat → Bool} (hf : ∀ c, f c = true → c < 128) : ∀ (l : List Nat), ∀ c ∈ l.takeWhile f, c < 128
 | [], c, hc => by simp at hc
 | a :: r, c, hc => by
  rw [List.takeWhile_cons] at hc
  cases hfa : f a with
  | false => rw [hfa] at hc; simp at hc
  | true =>
   rw [hfa] at hc
   simp at hc
   rcases hc with rfl | hc
   ·exact hf _ hfa
   ·exact tw_all hf r c hc
def Asc (l r : List Nat) : Prop := ∃ X, l = X ++ r ∧ ∀ c ∈ X, c < 128
theorem Asc.refl (l : List Nat) : Asc l l := ⟨[], rfl, by simp⟩
theorem Asc.trans {l m r : List Nat} (h : Asc l m) (g : Asc m r) : Asc l r := by
 obtain ⟨X, rfl, hX⟩ := h
 obtain ⟨Y, rfl, hY⟩ := g
 refine ⟨X ++ Y, by simp, fun c hc => ?_⟩
 rcases List.mem_append.1 hc with h | h
 ·exact hX c h
 ·exact hY c h
theorem Asc.cons {c : Nat} (hc : c < 128) (r : List Nat) : Asc (c :: r) r := ⟨[c], rfl, by simpa using hc⟩
theorem Asc.tail {l : List Nat} {c : Nat} (h : l.head? = some c) (hc : c < 128) : Asc l l.tail := by
 cases l with
 | nil => cases h
 | cons a r =>
  obtain rfl : a = c := by simpa using h
  exact Asc.cons hc r
theorem Asc.drop {f : Nat → Bool} (hf : ∀ c, f c = true → c < 128) (l : List Nat) : Asc l (l.dropWhile f) := ⟨l.takeWhile f, List.takeWhile_append_dropWhile.symm, tw_all hf l⟩
theorem Asc.take {l r : List Nat} (h : Asc l r) : ∀ c ∈ l.take (l.length - r.length), c < 128 := by
 obtain ⟨X, rfl, hX⟩ := h
 rw [List.length_append, Nat.add_sub_cancel, List.take_left]
 exact hX
theorem Asc.aft (l : List Nat) : Asc l (aft10 l) := Asc.drop (fun _ h => dg_low h) l
theorem Asc.dT (l : List Nat) : Asc l (dT l) := by
 unfold Go.Proofs.YtmimeejjaneedaaGreatDoor.dT
 split
 ·rename_i h
  exact ((Asc.aft l).trans (Asc.tail (c := 46) (by unfold dotB at h; simpa using h) (by omega))).trans (Asc.aft _)
 ·exact Asc.aft l
theorem Asc.unsg (l : List Nat) : Asc l (unsg l) := by
 unfold Go.Proofs.YtmimeejjaneedaaGreatDoor.unsg
 split
 ·rename_i h
  rcases h with h | h
  ·exact Asc.tail h (by omega)
  ·exact Asc.tail h (by omega)
 ·exact Asc.refl l
theorem Asc.expR {l : List Nat} (h : l.head? = some 101 ∨ l.head? = some 69) : Asc l (expR l) := by
 unfold Go.Proofs.YtmimeejjaneedaaGreatDoor.expR
 refine Asc.trans ?_ ((Asc.unsg _).trans (Asc.aft _))
 rcases h with h | h
 ·exact Asc.tail h (by omega)
 ·exact Asc.tail h (by omega)
theorem Asc.hex {l : List Nat} (h : hxA l = true) : ∀ c ∈ l.take (2 + ((l.drop 2).takeWhile hx16).length), c < 128 := by
 match l, h with
 | [], h => cases h
 | [a], h => unfold hxA at h; simp at h
 | a :: b :: r, h =>
  unfold hxA at h
  simp at h
  have h2 : Asc (a :: b :: r) (r.dropWhile hx16) := ((Asc.cons (by omega) _).trans (Asc.cons (by omega) r)).trans (Asc.drop (fun _ h => hx_low h) r)
  have h3 := h2.take
  have h4 := congrArg List.length (List.takeWhile_append_dropWhile (p := hx16) (l := r))
  rw [List.length_append] at h4
  simp only [List.length_cons] at h3
  rw [show r.length + 1 + 1 - (List.dropWhile hx16 r).length = 2 + (r.takeWhile hx16).length by omega] at h3
  exact h3
theorem numP_asc (l : List Nat) : ∀ c ∈ l.take (numP l), c < 128 := by
 unfold numP
 split
 ·rename_i h
  exact Asc.hex h
 ·split
  ·rename_i h
   exact ((Asc.dT l).trans (Asc.expR h)).take
  ·exact (Asc.dT l).take
theorem numP_le (l : List Nat) : numP l ≤ l.length := by
 unfold numP
 split
 ·rename_i h
  match l, h with
  | [], h => cases h
  | [a], h => unfold hxA at h; simp at h
  | a :: b :: r, h =>
   have h4 := (List.takeWhile_sublist hx16 (l := r)).length_le
   simp only [List.drop_succ_cons, List.drop_zero, List.length_cons]
   omega
 ·split <;> omega
def nmV (k : Nat) (l : List Nat) : Option Value := if numO l (numP l) = true then some (tkV 5 ⟨#[]⟩ (litV (l.take (numP l))) false false 0 (k + numP l)) else none
theorem part_n (u : Nat) (w : World) : Cq 90 #[.int .u16 u] (.bool (ptN u)) w := part_any u w

end
section
open Go.RowKit
def resW : List (List UInt8) := [[98, 114, 101, 97, 107], [99, 97, 115, 101], [99, 97, 116, 99, 104], [99, 108, 97, 115, 115], [99, 111, 110, 115, 116], [99, 111, 110, 116, 105, 110, 117, 101], [100, 101, 98, 117, 103, 103, 101, 114], [100, 101, 102, 97, 117, 108, 116], [100, 101, 108, 101, 116, 101], [100, 111], [101, 108, 115, 101], [101, 110, 117, 109], [101, 120, 112, 111, 114, 116], [101, 120, 116, 101, 110, 100, 115], [102, 97, 108, 115, 101], [102, 105, 110, 97, 108, 108, 121], [102, 111, 114], [102, 117, 110, 99, 116, 105, 111, 110], [105, 102], [105, 109, 112, 108, 101, 109, 101, 110, 116, 115], [105, 109, 112, 111, 114, 116], [105, 110], [105, 110, 115, 116, 97, 110, 99, 101, 111, 102], [105, 110, 116, 101, 114, 102, 97, 99, 101], [108, 101, 116], [110, 101, 119], [110, 117, 108, 108], [112, 97, 99, 107, 97, 103, 101], [112, 114, 105, 118, 97, 116, 101], [112, 114, 111, 116, 101, 99, 116, 101, 100], [112, 117, 98, 108, 105, 99], [114, 101, 116, 117, 114, 110], [115, 116, 97, 116, 105, 99], [115, 117, 112, 101, 114], [115, 119, 105, 116, 99, 104], [116, 104, 105, 115], [116, 104, 114, 111, 119], [116, 114, 117, 101], [116, 114, 121], [116, 121, 112, 101, 111, 102], [118, 97, 114], [118, 111, 105, 100], [119, 104, 105, 108, 101], [119, 105, 116, 104], [121, 105, 101, 108, 100]]
theorem xReserved_enc (s : ByteArray) (w : World) (hs : s.size ≤ 17592186044416) :
  Ct 18 #[.string s] (.bool (resW.any fun x => (⟨(encS s).toArray⟩ : ByteArray).toList == x)) w := by
 have C1 := Lib.hid (fun W => encode_any s W hs)
 obtain ⟨E, hE⟩ : ∃ E : ByteArray, (⟨(encS s).toArray⟩ : ByteArray) = E := ⟨_, rfl⟩
 rw [hE] at C1 ⊢
 clear hs hE
 go_enter Tryz.func18, Tryz.ntmps18
 go_wp2_with fail
 refine (C1.out _).mono ?_
 rintro e w' ⟨rfl, hb⟩
 go_wp2
 all_goals try go_ret
 all_goals first
  | exact ⟨by simp only [resW, List.any_cons, List.any_nil, *, Bool.true_or, Bool.or_true, Bool.or_false]; rfl, hb⟩
  | (exfalso; simp_all)


end
section
theorem rune_high {p : Nat} (h : 128 ≤ p) : ∃ b r, Lib.encodeRune (p : Int) = b :: r ∧ 128 ≤ b.toNat := by
 have low : ∀ x : Int, 128 ≤ x → x < 256 → 128 ≤ (x.toNat.toUInt8).toNat := by
  intro x h1 h2
  obtain ⟨n, rfl⟩ := Int.eq_ofNat_of_zero_le (show 0 ≤ x by omega)
  rw [Int.toNat_natCast]
  show 128 ≤ (UInt8.ofNat n).toNat
  rw [UInt8.toNat_ofNat']
  omega
 unfold Lib.encodeRune
 rcases Nat.lt_or_ge p 2048 with h1 | h1
 ·rw [Lib.encodeRuneZ_two (by omega) (by omega)]
  exact ⟨_, _, rfl, low _ (by omega) (by omega)⟩
 ·by_cases h2 : (2048 ≤ (p : Int) ∧ (p : Int) < 55296) ∨ (57343 < (p : Int) ∧ (p : Int) ≤ 65535)
  ·rw [Lib.encodeRuneZ_three h2]
   exact ⟨_, _, rfl, low _ (by omega) (by omega)⟩
  ·by_cases h3 : 65536 ≤ (p : Int) ∧ (p : Int) ≤ 1114111
   ·rw [Lib.encodeRuneZ_four h3.1 h3.2]
    exact ⟨_, _, rfl, low _ (by omega) (by omega)⟩
   ·rw [Lib.encodeRuneZ_bad (by omega)]
    exact ⟨_, _, rfl, low _ (by omega) (by omega)⟩
theorem rune_low {u : Nat} (h : u < 128) : Lib.encodeRune (u : Int) = [UInt8.ofNat u] := by
 unfold Lib.encodeRune
 rw [Lib.encodeRuneZ_one (by omega) (by omega)]
 show [(u : Int).toNat.toUInt8] = _
 rw [Int.toNat_natCast]
theorem drop_un (s : ByteArray) {i : Nat} (h : i < ln s) : (us s).drop i = un s i :: (us s).drop (i + 1) := by
 have hl : i < (us s).length := by rw [us_length]; exact h
 rw [List.drop_eq_getElem_cons hl, us_getElem s i hl]
theorem ofNat_inj8 {a b : Nat} (ha : a < 256) (hb : b < 256) (h : UInt8.ofNat a = UInt8.ofNat b) : a = b := by
 have := congrArg UInt8.toNat h
 rw [UInt8.toNat_ofNat', UInt8.toNat_ofNat'] at this
 omega
theorem enc_word (s : ByteArray) : ∀ (f i : Nat) (w : List Nat), (∀ c ∈ w, c < 128 ∧ c ≠ 92) → ln s ≤ i + f → (encF s f i = w.map UInt8.ofNat ↔ (us s).drop i = w)
 | 0, i, w, _, hf => by
  have hd : (us s).drop i = [] := List.drop_eq_nil_iff.2 (by rw [us_length]; omega)
  rw [hd]
  show [] = w.map UInt8.ofNat ↔ [] = w
  cases w <;> simp
 | f + 1, i, w, hw, hf => by
  rcases Nat.lt_or_ge i (ln s) with h | h
  ·have hdr := drop_un s h
   have bad : ∀ (b : UInt8) (r : List UInt8), (128 ≤ b.toNat ∨ b.toNat = 92) → ¬ b :: r = w.map UInt8.ofNat := by
    intro b r hb he
    cases w with
    | nil => cases he
    | cons c t =>
     obtain ⟨h1, h2⟩ := hw c (by simp)
     have h3 : b = UInt8.ofNat c := (List.cons.inj he).1
     rw [h3, UInt8.toNat_ofNat'] at hb
     omega
   have nob : 128 ≤ un s i → ¬ (us s).drop i = w := by
    intro hb he
    rw [hdr] at he
    have := hw (un s i) (by rw [← he]; simp)
    omega
   cases hp : prB s i
   ·rw [encF_one s f i h hp]
    unfold oneU
    by_cases hhl : (hiB (un s i) || loB (un s i)) = true
    ·have hb : 128 ≤ un s i := by
      unfold hiB loB at hhl
      simp only [Bool.or_eq_true, Bool.and_eq_true, decide_eq_true_eq] at hhl
      omega
     rw [if_pos hhl]
     constructor
     ·intro he
      exact absurd he (bad 92 _ (.inr rfl))
     ·intro he
      exact absurd he (nob hb)
    ·rw [if_neg hhl]
     rcases Nat.lt_or_ge (un s i) 128 with hu | hu
     ·rw [rune_low hu, hdr]
      show UInt8.ofNat (un s i) :: encF s f (i + 1) = _ ↔ _
      cases w with
      | nil => simp
      | cons c t =>
       have ih := enc_word s f (i + 1) t (fun d hd => hw d (by simp [hd])) (by omega)
       have hc := hw c (by simp)
       rw [List.map_cons, List.cons.injEq, List.cons.injEq, ih]
       constructor
       ·rintro ⟨h1, h2⟩
        exact ⟨ofNat_inj8 (by omega) (by omega) h1, h2⟩
       ·rintro ⟨h1, h2⟩
        exact ⟨by rw [h1], h2⟩
     ·obtain ⟨b, r, hb1, hb2⟩ := rune_high hu
      rw [hb1]
      constructor
      ·intro he
       exact absurd he (bad b _ (.inl hb2))
      ·intro he
       exact absurd he (nob hu)
   ·rw [encF_pair s f i h hp]
    obtain ⟨p1, p2, p3, p4, p5⟩ := prB_parts s i hp
    have hpp : 128 ≤ prP s i := by unfold prP; omega
    obtain ⟨b, r, hb1, hb2⟩ := rune_high hpp
    rw [hb1]
    constructor
    ·intro he
     exact absurd he (bad b _ (.inl hb2))
    ·intro he
     exact absurd he (nob (by omega))
  ·rw [encF_end s (f + 1) i (by omega)]
   have hd : (us s).drop i = [] := List.drop_eq_nil_iff.2 (by rw [us_length]; omega)
   rw [hd]
   cases w <;> simp
theorem encS_word (s : ByteArray) {w : List Nat} (hw : ∀ c ∈ w, c < 128 ∧ c ≠ 92) : encS s = w.map UInt8.ofNat ↔ us s = w := by
 have := enc_word s (ln s) 0 w hw (by omega)
 rw [List.drop_zero] at this
 exact this
theorem words_plain : ∀ w ∈ wordsL, ∀ c ∈ w, c < 128 ∧ c ≠ 92 := by decide +kernel
theorem marks_plain : ∀ w ∈ marksL, ∀ c ∈ w, c < 128 ∧ c ≠ 92 := by decide +kernel


end
section
open Go.RowKit
def mrkW : List (List UInt8) := [[123], [125], [40], [41], [91], [93], [46], [59], [44], [63], [58], [60], [62], [60, 61], [62, 61], [61, 61], [33, 61], [61, 61, 61], [33, 61, 61], [43], [45], [42], [47], [37], [43, 43], [45, 45], [60, 60], [62, 62], [62, 62, 62], [38], [124], [94], [33], [126], [38, 38], [124, 124], [61], [43, 61], [45, 61], [42, 61], [47, 61], [37, 61], [60, 60, 61], [62, 62, 61], [62, 62, 62, 61], [38, 61], [124, 61], [94, 61]]
theorem xmarks_enc (s : ByteArray) (w : World) (hs : s.size ≤ 17592186044416) :
  Ct 110 #[.string s] (.bool (mrkW.any fun x => (⟨(encS s).toArray⟩ : ByteArray).toList == x)) w := by
 have C1 := Lib.hid (fun W => encode_any s W hs)
 obtain ⟨E, hE⟩ : ∃ E : ByteArray, (⟨(encS s).toArray⟩ : ByteArray) = E := ⟨_, rfl⟩
 rw [hE] at C1 ⊢
 clear hs hE
 go_enter Tryz.func110, Tryz.ntmps110
 go_wp2_with fail
 refine (C1.out _).mono ?_
 rintro e w' ⟨rfl, hb⟩
 go_wp2
 all_goals try go_ret
 all_goals first
  | exact ⟨by simp only [mrkW, List.any_cons, List.any_nil, *, Bool.true_or, Bool.false_or, Bool.or_true]; rfl, hb⟩
  | (exfalso; simp_all)
theorem any_words {W : List (List UInt8)} {M : List (List Nat)} (h1 : ∀ x ∈ W, ∃ m ∈ M, x = m.map UInt8.ofNat) (h2 : ∀ m ∈ M, m.map UInt8.ofNat ∈ W) (hp : ∀ m ∈ M, ∀ c ∈ m, c < 128 ∧ c ≠ 92) (s : ByteArray) :
  (W.any fun x => (⟨(encS s).toArray⟩ : ByteArray).toList == x) = M.contains (us s) := by
 have e : (⟨(encS s).toArray⟩ : ByteArray).toList = encS s := by rw [Lib.toList_data]
 rw [e, Bool.eq_iff_iff, List.any_eq_true, List.contains_iff_mem]
 constructor
 ·rintro ⟨x, hx, hq⟩
  obtain ⟨m, hm, rfl⟩ := h1 x hx
  rw [(encS_word s (hp m hm)).1 (by simpa using hq)]
  exact hm
 ·intro h
  exact ⟨_, h2 _ h, by rw [(encS_word s (hp _ h)).2 rfl]; simp⟩
theorem mrk_one : ∀ x ∈ mrkW, ∃ m ∈ marksL, x = m.map UInt8.ofNat := by decide +kernel
theorem mrk_two : ∀ m ∈ marksL, m.map UInt8.ofNat ∈ mrkW := by decide +kernel
theorem res_one : ∀ x ∈ resW, ∃ m ∈ wordsL, x = m.map UInt8.ofNat := by decide +kernel
theorem res_two : ∀ m ∈ wordsL, m.map UInt8.ofNat ∈ resW := by decide +kernel
theorem xmarks_any (s : ByteArray) (w : World) (hs : s.size ≤ 17592186044416) :
  Ct 110 #[.string s] (.bool (isMark (us s))) w := by
 have h := xmarks_enc s w hs
 rw [any_words mrk_one mrk_two marks_plain] at h
 exact h
theorem xReserved_any (s : ByteArray) (w : World) (hs : s.size ≤ 17592186044416) :
  Ct 18 #[.string s] (.bool (resB (us s))) w := by
 have h := xReserved_enc s w hs
 rw [any_words res_one res_two words_plain] at h
 exact h
theorem mark_first {L : List Nat} {n : Nat} (hn : n ≤ 4) (h1 : isMark (L.take n) = true) (h2 : ∀ m, n < m → m ≤ 4 → isMark (L.take m) = false) : markL L = some (L.take n) := by
 cases hm : markL L with
 | none => rw [mark_none hm] at h1; cases h1
 | some t =>
  obtain ⟨g1, g2, g3, g4, g5⟩ := mark_some hm
  rcases Nat.lt_or_ge n t.length with h | h
  ·have := h2 _ h g2
   rw [g3, g4] at this
   cases this
  ·rw [g5 n h hn h1]
theorem mark_never {L : List Nat} (h : ∀ m, 0 < m → m ≤ 4 → isMark (L.take m) = false) : markL L = none := by
 cases hm : markL L with
 | none => rfl
 | some t =>
  obtain ⟨g1, g2, g3, g4, g5⟩ := mark_some hm
  have := h _ g1 g2
  rw [g3, g4] at this
  cases this
theorem slS_bLu (s : ByteArray) (k n : Nat) (hk : k ≤ ln s) : slS s (k : Int) ((k + n : Nat) : Int) = ⟨(bL (((us s).drop k).take n)).toArray⟩ := by
 rcases Nat.lt_or_ge (k + n) (ln s) with h | h
 ·exact slS_bL s k n (by omega)
 ·have e : slS s (k : Int) ((k + n : Nat) : Int) = slS s (k : Int) ((k + (ln s - k) : Nat) : Int) := by
   unfold slS
   rw [Int.min_eq_right (by omega), show k + (ln s - k) = ln s by omega, Int.min_self]
  rw [e, slS_bL s k _ (by omega), List.take_of_length_le (by rw [List.length_drop, us_length]; omega), List.take_of_length_le (by rw [List.length_drop, us_length]; omega)]
def mkV (k : Nat) (o : Option (List Nat)) : Option Value := o.map fun t => tkV 4 ⟨(bL t).toArray⟩ 0 false false 0 (k + t.length)
theorem xmark_any (s : ByteArray) (k : Nat) (w : World) (hs : s.size ≤ 140737488355328) (hk : k ≤ ln s) :
  Cp 72 #[.string s, .int .i64 k] w fun e w' => e = TokE (mkV k (markL ((us s).drop k))) ∧ Below w.heap.size w w' := by
 have hs63 : s.size ≤ maxLen := by unfold maxLen; omega
 have hln := ln_le s
 have hkl : (k : Int) ≤ 70368744177664 := by omega
 obtain ⟨L, hL⟩ : ∃ L, (us s).drop k = L := ⟨_, rfl⟩
 have CS : ∀ (i : Nat), i ≤ 3 → ∀ W, Cq 109 #[.string s, .int .i64 k, .int .i64 ((k : Int) + 4 - (i : Int))] (.string ⟨(bL (L.take (4 - i))).toArray⟩) W := fun i hi W => by
  have h := slice_any s (k : Int) ((k : Int) + 4 - (i : Int)) W hs63
  rw [show (k : Int) + 4 - (i : Int) = ((k + (4 - i) : Nat) : Int) by omega, slS_bLu s k (4 - i) hk, hL] at h
  rw [show (k : Int) + 4 - (i : Int) = ((k + (4 - i) : Nat) : Int) by omega]
  exact h
 have hX : ∀ n, n ≤ 4 → (⟨(bL (L.take n)).toArray⟩ : ByteArray).size ≤ 8 ∧ us ⟨(bL (L.take n)).toArray⟩ = L.take n := fun n hn => ⟨by
  show (bL (L.take n)).toArray.size ≤ 8
  rw [List.size_toArray, bL_length, List.length_take]
  omega, us_bL fun u hu => us_lt s u (List.mem_of_mem_drop (by rw [hL]; exact List.mem_of_mem_take hu))⟩
 have CS := Lib.hid CS
 have HX := Lib.hid hX
 rw [hL]
 obtain ⟨R, hR⟩ : ∃ R, markL L = R := ⟨_, rfl⟩
 rw [hR]
 have HR := Lib.hid hR
 have T0 := Lib.hid (TB.start w)
 clear hs hs63 hln hk hL hX hR
 go_enter Tryz.func72, Tryz.ntmps72
 go_wp2
 go_loopw [8] (fun iv wr => ∃ i : Nat, iv = .int .i64 i ∧ i ≤ 4 ∧ TB w wr ∧ Hid (∀ m, 4 - i < m → m ≤ 4 → isMark (L.take m) = false)) (fun iv _ => 4 - (intOf iv).toNat)
 case atStart => exact ⟨0, rfl, by omega, T0.out, Lib.hid (fun m h1 h2 => by omega)⟩
 case round =>
  obtain ⟨i, rfl, hi, T, HM⟩ := hrel
  by_cases h4 : i = 4
  ·have hN := mark_never (fun m h1 h2 => HM.out m (by omega) h2)
   obtain rfl : R = none := by rw [← HR.out]; exact hN
   subst h4
   have HG := Lib.hid T.bl
   have HB := Lib.hid T.bw
   clear T HM hN HX CS HR
   go_wp2_with (refine tkS rfl rfl w.heap.size 0 ⟨#[]⟩ 0 false false 0 0 rfl rfl HG.out ?_)
   refine tkR rfl rfl HG.out rfl rfl ⟨?_, below_setRowK HB.out (Nat.le_refl _) _⟩
   rfl
  ·have hi3 : i ≤ 3 := by omega
   have C1 := Lib.hid (CS.out i hi3)
   obtain ⟨n, hn⟩ : ∃ n, 4 - i = n := ⟨_, rfl⟩
   rw [hn] at C1
   have hn4 : n ≤ 4 := by omega
   obtain ⟨X, hXe⟩ : ∃ X : ByteArray, (⟨(bL (L.take n)).toArray⟩ : ByteArray) = X := ⟨_, rfl⟩
   obtain ⟨x1, x2⟩ := HX.out n hn4
   rw [hXe] at C1 x1 x2
   have C2 := fun W => xmarks_any X W (by omega)
   have C3 := fun W => len_any X W (by unfold maxLen; omega)
   have hlX : ln X = (L.take n).length := by rw [← us_length, x2]
   have hlX4 : ln X ≤ 4 := by rw [hlX, List.length_take]; omega
   rw [x2] at C2
   have C3 := Lib.hid C3
   cases hb : isMark (L.take n)
   ·rw [hb] at C2
    have C2 := Lib.hid C2
    have HM2 : Hid (∀ m, 4 - (i + 1) < m → m ≤ 4 → isMark (L.take m) = false) := Lib.hid (fun m h1 h2 => by
     rcases Nat.lt_or_ge n m with h | h
     ·exact HM.out m (by omega) h2
     ·rw [show m = n by omega]
      exact hb)
    clear hb hXe x1 x2 hlX HM HX CS h4 hn HR
    go_wp2_with fail
    refine (C1.out _).mono ?_
    rintro e w' ⟨rfl, rfl⟩
    go_wp2_with fail
    refine (C2.out _).mono ?_
    rintro e w1 ⟨rfl, b1⟩
    have T1 := T.step b1
    clear T b1
    go_wp2
    go_roundw
    case rel => exact ⟨i + 1, by go_num, by omega, T1, HM2⟩
    case measure => simp [intOf]; omega
   ·rw [hb] at C2
    have C2 := Lib.hid C2
    have hF := mark_first hn4 hb (fun m h1 h2 => HM.out m (by omega) h2)
    obtain rfl : R = some (L.take n) := by rw [← HR.out]; exact hF
    obtain ⟨m, hm⟩ : ∃ m, ln X = m := ⟨_, rfl⟩
    rw [hm] at C3 hlX4
    have HE : Hid (TokE (mkV k (some (L.take n))) = .returned (.tuple #[.agg #[.int .i64 4, .string X, .float .f64 0, .bool false, .bool false, .int .i64 0, .int .i64 ((k : Int) + (m : Int))], .bool true])) := Lib.hid (by
     unfold TokE mkV tkV
     rw [Option.map_some, hXe, ← hlX, hm]
     simp)
    clear hb hXe x1 x2 hlX HM HX CS h4 hn hF hm HR
    go_wp2_with fail
    refine (C1.out _).mono ?_
    rintro e w' ⟨rfl, rfl⟩
    go_wp2_with fail
    refine (C2.out _).mono ?_
    rintro e w1 ⟨rfl, b1⟩
    have T1 := T.step b1
    clear T b1
    go_wp2_with fail
    refine (C3.out _).mono ?_
    rintro e w' ⟨rfl, rfl⟩
    have HG := Lib.hid T1.bl
    have HB := Lib.hid T1.bw
    clear T1
    go_wp2_with (refine tkS rfl rfl w.heap.size 4 X 0 false false 0 ((k : Int) + (m : Int)) rfl rfl HG.out ?_)
    refine tkR rfl rfl HG.out rfl rfl ⟨?_, below_setRowK HB.out (Nat.le_refl _) _⟩
    exact HE.out.symm

end
section
open Go.RowKit
structure NB (w wr : World) (kd : Nat) (tx : ByteArray) (e : Bool) (p : Nat) : Prop where
 tb : TB w wr
 nb : wr.heap[w.heap.size + 1]? = some (.cells #[.int .i64 (kd : Int), .string tx, .float .f64 0, .bool e, .bool false, .int .i64 0, .int .i64 (p : Int)] 24 (0, 0))
 sz : w.heap.size + 2 ≤ wr.heap.size
theorem NB.cells {w wr : World} {kd : Nat} {tx : ByteArray} {e : Bool} {p : Nat} (h : NB w wr kd tx e p) :
  wr.cell? ⟨w.heap.size + 1, 0, none⟩ = some (.int .i64 (kd : Int)) ∧ wr.cell? ⟨w.heap.size + 1, 1, none⟩ = some (.string tx) ∧ wr.cell? ⟨w.heap.size + 1, 3, none⟩ = some (.bool e) ∧ wr.cell? ⟨w.heap.size + 1, 6, none⟩ = some (.int .i64 (p : Int)) ∧ (∀ k, wr.frozen? ⟨w.heap.size + 1, k, none⟩ = false) := by
 have h := h.nb
 refine ⟨by simp [World.cell?, h], by simp [World.cell?, h], by simp [World.cell?, h], by simp [World.cell?, h], fun k => by simp [World.frozen?, h]⟩
theorem NB.base {w w1 w2 : World} {kd : Nat} {tx : ByteArray} {e : Bool} {p : Nat} (h : NB w w1 kd tx e p) (hb : Below (w.heap.size + 2) w1 w2) : NB w w2 kd tx e p :=
 ⟨h.tb.base (hb.mono (by omega)), (hb.block _ (by omega)).trans h.nb, Nat.le_trans h.sz hb.size⟩
theorem NB.step {w w1 w2 : World} {kd : Nat} {tx : ByteArray} {e : Bool} {p : Nat} (h : NB w w1 kd tx e p) (hb : Below w1.heap.size w1 w2) : NB w w2 kd tx e p := h.base (hb.mono h.sz)
theorem NB.draw {w w1 : World} {kd : Nat} {tx : ByteArray} {e : Bool} {p : Nat} (h : NB w w1 kd tx e p) (n : Nat) : NB w (w1.drewN n) kd tx e p := h.step (below_drewN' (Below.refl _ _) n)
theorem TB.other {w wr : World} (h : TB w wr) (i : Nat) (v : Value) : TB w (wr.setCell ⟨w.heap.size + 1, i, none⟩ v) :=
 ⟨(heap_setCell_other wr ⟨w.heap.size + 1, i, none⟩ w.heap.size v (by simp)).trans h.bl, h.bw.setCell (by show w.heap.size ≤ w.heap.size + 1; omega) _, by simp only [World.setCell, Array.size_modify]; exact h.sz⟩
theorem NB.put0 {w wr : World} {kd : Nat} {tx : ByteArray} {e : Bool} {p : Nat} (h : NB w wr kd tx e p) (k : Nat) : NB w (wr.setCell ⟨w.heap.size + 1, 0, none⟩ (.int .i64 (k : Int))) k tx e p :=
 ⟨h.tb.other 0 _, by have := heap_setCell_same wr (w.heap.size + 1) 0 _ _ (.int .i64 (k : Int)) h.nb; exact this, by simp only [World.setCell, Array.size_modify]; exact h.sz⟩
theorem NB.put1 {w wr : World} {kd : Nat} {tx : ByteArray} {e : Bool} {p : Nat} (h : NB w wr kd tx e p) (t : ByteArray) : NB w (wr.setCell ⟨w.heap.size + 1, 1, none⟩ (.string t)) kd t e p :=
 ⟨h.tb.other 1 _, by have := heap_setCell_same wr (w.heap.size + 1) 1 _ _ (.string t) h.nb; exact this, by simp only [World.setCell, Array.size_modify]; exact h.sz⟩
theorem NB.put3 {w wr : World} {kd : Nat} {tx : ByteArray} {e : Bool} {p : Nat} (h : NB w wr kd tx e p) (b : Bool) : NB w (wr.setCell ⟨w.heap.size + 1, 3, none⟩ (.bool b)) kd tx b p :=
 ⟨h.tb.other 3 _, by have := heap_setCell_same wr (w.heap.size + 1) 3 _ _ (.bool b) h.nb; exact this, by simp only [World.setCell, Array.size_modify]; exact h.sz⟩
theorem NB.put6 {w wr : World} {kd : Nat} {tx : ByteArray} {e : Bool} {p : Nat} (h : NB w wr kd tx e p) (q : Nat) : NB w (wr.setCell ⟨w.heap.size + 1, 6, none⟩ (.int .i64 (q : Int))) kd tx e q :=
 ⟨h.tb.other 6 _, by have := heap_setCell_same wr (w.heap.size + 1) 6 _ _ (.int .i64 (q : Int)) h.nb; exact this, by simp only [World.setCell, Array.size_modify]; exact h.sz⟩
theorem own16_set {B : Nat} {l : List Nat} {v : Value} {w : World} (h : Own16 B l v w) {k i : Nat} (hk : k < B) (x : Value) : Own16 B l v (w.setCell ⟨k, i, none⟩ x) := by
 obtain ⟨hn, h⟩ := h
 refine ⟨hn, ?_⟩
 rcases h with h | ⟨g, cap, cur, hv, hb, hg, hr⟩
 ·exact .inl h
 ·exact .inr ⟨g, cap, cur, hv, hb, (heap_setCell_other w ⟨k, i, none⟩ g x (by show g ≠ k; omega)).trans hg, hr⟩
def lenOf : Value → Nat
 | .slice _ n _ => n
 | _ => 0
theorem own16_len {B : Nat} {l : List Nat} {v : Value} {w : World} (h : Own16 B l v w) : ∃ a cap, v = .slice a l.length cap := by
 obtain ⟨hn, h⟩ := h
 rcases h with ⟨rfl, h0⟩ | ⟨g, cap, cur, rfl, hb, hg, hr⟩
 ·exact ⟨none, 0, by rw [h0]⟩
 ·exact ⟨_, _, rfl⟩
/-! ### Names, one unit further -/
def namG (b : Bool) (l : List Nat) : Option (List Nat × Bool × Nat) := namF (l.length + 1) b l
theorem namG_cons (b : Bool) (c : Nat) (r : List Nat) : namG b (c :: r) =
  if c = 92 then
   if hd0 r = 117 then
    match hexA 0 4 r.tail with
    | none => none
    | some v => if fitN b v = true then (namG false (r.drop 5)).map fun p => (v :: p.1, true, 6 + p.2.2) else none
   else none
  else if fitN b c = true then (namG false r).map fun p => (c :: p.1, p.2.1, 1 + p.2.2)
  else some ([], false, 0) := by
 show namF ((c :: r).length + 1) b (c :: r) = _
 rw [namF]
 split
 ·split
  ·cases he : hexA 0 4 r.tail with
   | none => rfl
   | some v =>
    simp only []
    rw [nam_fuel _ ((r.drop 5).length + 1) false (r.drop 5) (by simp; omega) (by omega)]
    rfl
  ·rfl
 ·rw [nam_fuel _ (r.length + 1) false r (by simp) (by omega)]
  rfl

end
section
open Go.RowKit
theorem NB.start (w : World) (k : Nat) : NB w (((w.alloc (.cells #[.int .i64 0, .string ⟨#[]⟩, .float .f64 0, .bool false, .bool false, .int .i64 0, .int .i64 0] 24)).alloc (.cells #[.int .i64 0, .string ⟨#[]⟩, .float .f64 0, .bool false, .bool false, .int .i64 0, .int .i64 0] 24)).setRow (w.heap.size + 1) #[.int .i64 2, .string ⟨#[]⟩, .float .f64 0, .bool false, .bool false, .int .i64 0, .int .i64 (k : Int)]) 2 ⟨#[]⟩ false k := by
 have h1 := (TB.start w).step ((Below.refl _ _).alloc (Nat.le_refl _) (.cells #[.int .i64 0, .string ⟨#[]⟩, .float .f64 0, .bool false, .bool false, .int .i64 0, .int .i64 0] 24))
 obtain ⟨V, hV⟩ : ∃ V, w.alloc (.cells #[.int .i64 0, .string ⟨#[]⟩, .float .f64 0, .bool false, .bool false, .int .i64 0, .int .i64 0] 24) = V := ⟨_, rfl⟩
 have hs : V.heap.size = w.heap.size + 1 := by rw [← hV]; simp
 rw [hV] at h1 ⊢
 have h2 := heap_alloc_last V (.cells #[.int .i64 0, .string ⟨#[]⟩, .float .f64 0, .bool false, .bool false, .int .i64 0, .int .i64 0] 24)
 rw [hs] at h2
 exact ⟨h1.base (below_setRowK (Below.refl _ _) (Nat.le_refl _) _), setRow_heap _ _ _ _ _ _ h2, by rw [setRow_size]; simp; omega⟩
theorem NB.first (w : World) : ((w.alloc (.cells #[.int .i64 0, .string ⟨#[]⟩, .float .f64 0, .bool false, .bool false, .int .i64 0, .int .i64 0] 24)).alloc (.cells #[.int .i64 0, .string ⟨#[]⟩, .float .f64 0, .bool false, .bool false, .int .i64 0, .int .i64 0] 24)).heap[w.heap.size + 1]? = some (.cells #[.int .i64 0, .string ⟨#[]⟩, .float .f64 0, .bool false, .bool false, .int .i64 0, .int .i64 0] 24 (0, 0)) := by
 have h2 := heap_alloc_last (w.alloc (.cells #[.int .i64 0, .string ⟨#[]⟩, .float .f64 0, .bool false, .bool false, .int .i64 0, .int .i64 0] 24)) (.cells #[.int .i64 0, .string ⟨#[]⟩, .float .f64 0, .bool false, .bool false, .int .i64 0, .int .i64 0] 24)
 rw [show (w.alloc (.cells #[.int .i64 0, .string ⟨#[]⟩, .float .f64 0, .bool false, .bool false, .int .i64 0, .int .i64 0] 24)).heap.size = w.heap.size + 1 by simp] at h2
 exact h2
def namR (j : Nat) (l : List Nat) (e : Bool) (s : ByteArray) : Option (List Nat × Bool × Nat) := (namG (l.length == 0) ((us s).drop j)).map fun p => (l ++ p.1, e || p.2.1, j + p.2.2)
def namV (o : Option (List Nat × Bool × Nat)) : Option Value := o.map fun p => tkV (if resB p.1 = true then 3 else 2) ⟨(bL p.1).toArray⟩ 0 p.2.1 false 0 p.2.2
theorem namG_at (b : Bool) (L : List Nat) (j : Nat) : namG b (L.drop j) =
  if hd0 (L.drop j) = 92 then
   if hd0 (L.drop (j + 1)) = 117 then
    match hexB 0 4 (L.drop (j + 2)) with
    | none => none
    | some v => if fitN b v = true then (namG false (L.drop (j + 6))).map fun p => (v :: p.1, true, 6 + p.2.2) else none
   else none
  else if fitN b (hd0 (L.drop j)) = true then (namG false (L.drop (j + 1))).map fun p => (hd0 (L.drop j) :: p.1, p.2.1, 1 + p.2.2)
  else some ([], false, 0) := by
 rcases hd : L.drop j with _ | ⟨c, r⟩
 ·have h0 : hd0 ([] : List Nat) = 0 := rfl
  rw [h0, if_neg (by omega), if_neg (by cases b <;> decide)]
  rfl
 ·obtain ⟨h1, h2⟩ := drop_two hd
  have h0 : hd0 (c :: r) = c := rfl
  rw [namG_cons, h0, h1, h2, ← hexA_B 3 0, show L.drop (j + 6) = r.drop 5 by rw [← h1, List.drop_drop]]
  try rfl
theorem hex_len {v : Nat} {l : List Nat} (h : hexB 0 4 l = some v) : 4 ≤ l.length ∧ v < 65536 := by
 rw [← hexA_B 3 0] at h
 exact ⟨hexA_len h, hexA_lt h (by omega)⟩
theorem NB.all {w wr : World} {kd : Nat} {tx : ByteArray} {e : Bool} {p : Nat} (h : NB w wr kd tx e p) :
  wr.cell? ⟨w.heap.size + 1, 0, none⟩ = some (.int .i64 (kd : Int)) ∧ wr.cell? ⟨w.heap.size + 1, 1, none⟩ = some (.string tx) ∧ wr.cell? ⟨w.heap.size + 1, 2, none⟩ = some (.float .f64 0) ∧ wr.cell? ⟨w.heap.size + 1, 3, none⟩ = some (.bool e) ∧ wr.cell? ⟨w.heap.size + 1, 4, none⟩ = some (.bool false) ∧ wr.cell? ⟨w.heap.size + 1, 5, none⟩ = some (.int .i64 0) ∧ wr.cell? ⟨w.heap.size + 1, 6, none⟩ = some (.int .i64 (p : Int)) := by
 have h := h.nb
 refine ⟨by simp [World.cell?, h], by simp [World.cell?, h], by simp [World.cell?, h], by simp [World.cell?, h], by simp [World.cell?, h], by simp [World.cell?, h], by simp [World.cell?, h]⟩
def NmP (w : World) (s : ByteArray) (j : Nat) (l : List Nat) (e : Bool) (v : Value) (wr : World) (R : Option (List Nat × Bool × Nat)) : Prop :=
 l.length ≤ j ∧ (∀ u ∈ l, u < 65536) ∧ namR j l e s = R ∧ NB w wr 2 ⟨#[]⟩ e j ∧ Own16 (w.heap.size + 2) l v wr
theorem xname_any (s : ByteArray) (k : Nat) (w : World) (hs : s.size ≤ 4398046511104) (hk : k ≤ ln s) :
  Cp 68 #[.string s, .int .i64 k] w fun e w' => e = TokE (namV (namR k [] false s)) ∧ Below w.heap.size w w' := by
 have hs63 : s.size ≤ maxLen := by unfold maxLen; omega
 obtain ⟨i0, hi, hz0, hz1, hz2⟩ := info_parts info_u16
 have hln := ln_le s
 have CU := Lib.hid (fun (j : Nat) W => xunit_any s j W hs63)
 have CF := Lib.hid (fun (c i : Nat) W => xfits_any c i W)
 have CL := Lib.hid (fun (j : Nat) (hj : j ≤ ln s) W => xletter_any s (j + 1) W (by omega) (by omega))
 obtain ⟨R, hR⟩ : ∃ R, namR k [] false s = R := ⟨_, rfl⟩
 rw [hR]
 have HR := Lib.hid hR
 have HL := Lib.hid (show ln s ≤ 2199023255552 by omega)
 have HN0 := Lib.hid (NB.start w k)
 have HN1 := Lib.hid (NB.first w)
 have HK := Lib.hid hk
 clear hs hs63 hR hln hk
 go_enter Tryz.func68, Tryz.ntmps68
 go_wp2_with (first | (refine tkS rfl rfl (w.heap.size + 1) 2 ⟨#[]⟩ 0 false false 0 (k : Int) rfl rfl HN1.out ?_))
 go_frame
 go_loopw [6] (fun lv wr => ∃ (j : Nat) (l : List Nat) (v : Value) (esc : Bool), lv = v ∧ j ≤ ln s ∧ Hid (NmP w s j l esc v wr R)) (fun lv _ => ln s + 1 - lenOf lv)
 case atStart => exact ⟨k, [], _, false, rfl, HK.out, Lib.hid ⟨by simp, by simp, HR.out, HN0.out, Own16.nil _ _⟩⟩
 case round =>
  obtain ⟨j, l, v, esc, hv, hj, HJ⟩ := hrel
  obtain rfl := hv.symm
  obtain ⟨h1, h2, h3, NB0, H⟩ := HJ.out
  have HJ1 := Lib.hid h1
  have HJ2 := Lib.hid h2
  have HJ3 := Lib.hid hj
  have hl1 := own16_len H
  obtain ⟨a, cap, rfl⟩ := hl1
  obtain ⟨c0, c1, c3, c6, fz⟩ := NB0.cells
  have f6 := fz 6
  have hjl : (j : Int) ≤ 2199023255552 := by have := HL.out; omega
  have HLT : Hid (lenOf (.slice a l.length cap) ≤ ln s) := Lib.hid (by show l.length ≤ ln s; omega)
  have hll : (l.length : Int) ≤ 2199023255552 := by have := HL.out; omega
  have hsz := NB0.sz
  obtain ⟨c, hc⟩ : ∃ c, hd0 ((us s).drop j) = c := ⟨_, rfl⟩
  have C1 := CU.out j
  rw [hc] at C1
  have C1 := Lib.hid C1
  have h4 : R = (namG (l.length == 0) ((us s).drop j)).map fun p => (l ++ p.1, esc || p.2.1, j + p.2.2) := by rw [← h3]; rfl
  rw [namG_at, hc] at h4
  obtain ⟨b0, hb0⟩ : ∃ b0, (l.length == 0) = b0 := ⟨_, rfl⟩
  have CF1 := fun x W => CF.out x l.length W
  rw [hb0] at h4 CF1
  have hcl : c ≠ 0 → j + 1 ≤ ln s := fun h => by
   have := hd0_lt (L := us s) (k := j) (by rw [hc]; exact h)
   rw [us_length] at this
   exact this
  have hcu : c < 65536 := by
   by_cases h0 : c = 0
   ·omega
   ·obtain ⟨x, g1, g2⟩ := drop_step (L := us s) (k := j) (by rw [us_length]; exact hcl h0)
    rw [hc] at g2
    subst g2
    exact us_lt s c (List.mem_of_mem_drop (by rw [g1]; simp))
  have CF1 := Lib.hid CF1
  clear fz c0 c1 HJ h1 h2 h3 hj hc hb0
  by_cases h92 : c = 92
  ·rw [if_pos h92] at h4
   subst h92
   have CL1 := CL.out j HJ3.out
   obtain ⟨d, hd⟩ : ∃ d, hd0 ((us s).drop (j + 1)) = d := ⟨_, rfl⟩
   obtain ⟨o, ho⟩ : ∃ o, hexB 0 4 ((us s).drop (j + 2)) = o := ⟨_, rfl⟩
   rw [hd, ho] at h4
   rw [hd, show j + 1 + 1 = j + 2 by omega, ho] at CL1
   by_cases h117 : d = 117
   ·rw [if_pos h117] at h4
    subst h117
    cases o with
    | none =>
     obtain rfl : R = none := h4
     have CL2 := Lib.hid (show ∀ W, Cp 105 #[.string s, .int .i64 ((j : Int) + 1)] W fun e w' => e = .returned (.tuple #[.int .u16 0, .int .i64 ((j + 1 + 5 : Nat) : Int), .bool false]) ∧ ∃ n, w' = W.drewN n from CL1)
     clear CL1 hd ho HR hcl hcu hll hsz
     go_wp2
     go_quiet ((go_at_call 36; exact Calls.quiet_of (C1.out _)))
     go_wp2_with fail
     refine (CL2.out _).mono ?_
     rintro e w' ⟨rfl, n1, rfl⟩
     have T2 := (NB0.draw (nq + n1)).tb
     have HG := Lib.hid T2.bl
     have HB := Lib.hid T2.bw
     clear T2 NB0 H c3 c6 f6
     go_wp2_with (refine tkS rfl rfl w.heap.size 0 ⟨#[]⟩ 0 false false 0 0 rfl rfl HG.out ?_)
     refine tkR rfl rfl HG.out rfl rfl ⟨?_, below_setRowK HB.out (Nat.le_refl _) _⟩
     rfl
    | some x =>
     obtain ⟨g1, g2⟩ := hex_len ho
     rw [List.length_drop, us_length] at g1
     have CL2 := Lib.hid (show ∀ W, Cp 105 #[.string s, .int .i64 ((j : Int) + 1)] W fun e w' => e = .returned (.tuple #[.int .u16 (x : Nat), .int .i64 ((j + 1 + 5 : Nat) : Int), .bool true]) ∧ ∃ n, w' = W.drewN n from CL1)
     have CF2 := CF1.out x
     cases hf : fitN b0 x
     ·rw [hf] at CF2
      have h4 : R = none := by rw [h4]; simp [hf]
      subst h4
      have CF2 := Lib.hid CF2
      clear CL1 hd ho HR hf hcl hcu g1 g2 hsz
      go_wp2
      go_quiet ((go_at_call 36; exact Calls.quiet_of (C1.out _)))
      go_wp2_with fail
      refine (CL2.out _).mono ?_
      rintro e w' ⟨rfl, n1, rfl⟩
      go_wp2_with fail
      refine (CF2.out _).mono ?_
      rintro e w' ⟨rfl, rfl⟩
      have T2 := (NB0.draw (nq + n1)).tb
      have HG := Lib.hid T2.bl
      have HB := Lib.hid T2.bw
      clear T2 NB0 H c3 c6 f6
      go_wp2_with (refine tkS rfl rfl w.heap.size 0 ⟨#[]⟩ 0 false false 0 0 rfl rfl HG.out ?_)
      refine tkR rfl rfl HG.out rfl rfl ⟨?_, below_setRowK HB.out (Nat.le_refl _) _⟩
      rfl
     ·rw [hf] at CF2
      have CF2 := Lib.hid CF2
      have hj6 : j + 6 ≤ ln s := by omega
      have HN : Hid (namR (j + 6) (l ++ [x]) true s = R) := Lib.hid (by
       rw [h4]
       simp only [hf, if_true]
       unfold namR
       rw [show ((l ++ [x]).length == 0) = false by simp]
       cases namG false ((us s).drop (j + 6)) with
       | none => rfl
       | some p => simp; omega)
      have HU : Hid ((l ++ [x]).length ≤ j + 6 ∧ ∀ u ∈ l ++ [x], u < 65536) := Lib.hid ⟨by rw [List.length_append, List.length_singleton]; have := HJ1.out; omega, fun u hu => by
       rcases List.mem_append.1 hu with h | h
       ·exact HJ2.out u h
       ·simp at h; omega⟩
      have HJ6 := Lib.hid hj6
      obtain ⟨q, hq⟩ : ∃ q, j + 6 = q := ⟨_, rfl⟩
      have e6 : j + 1 + 5 = q := by omega
      rw [e6] at CL2
      rw [hq] at HN HU HJ6
      clear CL1 hd ho HR hf h4 hcl hcu g1 g2 hj6 hq e6
      cases esc
      all_goals
       go_wp2
       go_quiet ((go_at_call 36; exact Calls.quiet_of (C1.out _)))
       go_wp2_with fail
       refine (CL2.out _).mono ?_
       rintro e w' ⟨rfl, n1, rfl⟩
       go_wp2_with fail
       refine (CF2.out _).mono ?_
       rintro e w' ⟨rfl, rfl⟩
       go_wp2_with (at_builtin; refine wpList_append_own _ rfl _ _ 57 rfl (w.heap.size + 2) 52 i0 (.int .u16 0) 1 2 Tryz.underlying57 hi hz0 hz1 hz2 rfl (by decide) _ _ _ rfl (World.ownsRow.alloc (w := (wr.drewN (nq + n1))) H _) ⟨(wr.drewN (nq + n1)).heap.size, 0, none⟩ 1 1 [.int .u16 (x : Nat)] rfl rfl ?c1 ?c2 ?c3 ?c4 ?c5 ?_)
       case c1 => exact (cell_one_new _ _ _)
       case c2 => simp [Value.oneCell']
       case c3 => unfold maxLen; omega
       case c4 => omega
       case c5 => simp; omega
       intro v' w1 hown hg _
       have hbw : Below (w.heap.size + 2) wr w1 := ((below_drewN' (Below.refl _ wr) (nq + n1)).alloc (by simpa using hsz) _).grown hg (by simp; omega) (fun j hj => (World.ownsRow.lt H j hj).1)
       have NB1 := NB0.base hbw
       obtain ⟨c0, c1, d3, d6, fz⟩ := NB1.cells
       have f3 := fz 3
       have f6 := fz 6
       have o1 : Own16 (w.heap.size + 2) (l ++ [x]) v' w1 := by simpa [Own16] using hown
       have HX : Hid (NmP w s q (l ++ [x]) true v' ((w1.setCell ⟨w.heap.size + 1, 6, none⟩ (.int .i64 (q : Int))).setCell ⟨w.heap.size + 1, 3, none⟩ (.bool true)) R) := Lib.hid ⟨HU.out.1, HU.out.2, HN.out, (NB1.put6 q).put3 true, own16_set (own16_set o1 (by omega) _) (by omega) _⟩
       have HW := Lib.hid (own16_len o1)
       clear NB0 NB1 hbw hown hg H o1 fz c0 c1 c3 c6
       go_wp2
       go_roundw
       case rel => exact ⟨q, l ++ [x], v', true, rfl, HJ6.out, HX⟩
       case measure =>
        obtain ⟨a', cap', rfl⟩ := HW.out
        have := HLT.out
        simp [lenOf] at this ⊢
        omega
   ·rw [if_neg h117] at h4
    obtain rfl : R = none := h4
    have CL2 := Lib.hid (show ∀ W, Cp 105 #[.string s, .int .i64 ((j : Int) + 1)] W fun e w' => e = .returned (.tuple #[.int .u16 0, .int .i64 0, .bool false]) ∧ ∃ n, w' = W.drewN n from fun W => (CL1 W).mono fun e w' ⟨he, hw⟩ => ⟨by rw [he]; unfold letB; rw [if_neg h117], hw⟩)
    clear CL1 hd ho HR h117 hcl hcu hll hsz
    go_wp2
    go_quiet ((go_at_call 36; exact Calls.quiet_of (C1.out _)))
    go_wp2_with fail
    refine (CL2.out _).mono ?_
    rintro e w' ⟨rfl, n1, rfl⟩
    have T2 := (NB0.draw (nq + n1)).tb
    have HG := Lib.hid T2.bl
    have HB := Lib.hid T2.bw
    clear T2 NB0 H c3 c6 f6
    go_wp2_with (refine tkS rfl rfl w.heap.size 0 ⟨#[]⟩ 0 false false 0 0 rfl rfl HG.out ?_)
    refine tkR rfl rfl HG.out rfl rfl ⟨?_, below_setRowK HB.out (Nat.le_refl _) _⟩
    rfl
  ·rw [if_neg h92] at h4
   have g1 : ((c : Int) == 92) = false := by rw [beq_eq_false_iff_ne]; omega
   have CF2 := CF1.out c
   cases hf : fitN b0 c
   ·rw [hf] at CF2
    have CF2 := Lib.hid CF2
    have h5 : R = some (l, esc, j) := by rw [h4]; simp [hf]
    subst h5
    have hlb : 2 * l.length ≤ 140737488355328 := by have := HJ1.out; have := HL.out; have := HJ3.out; omega
    obtain ⟨X, hX⟩ : ∃ X : ByteArray, (⟨(bL l).toArray⟩ : ByteArray) = X := ⟨_, rfl⟩
    have hXu : us X = l := by rw [← hX]; exact us_bL HJ2.out
    have hXs : X.size ≤ 17592186044416 := by
     rw [← hX]
     show (bL l).toArray.size ≤ _
     rw [List.size_toArray, bL_length]
     have := HJ1.out; have := HL.out; have := HJ3.out; omega
    have CM := Lib.hid (show ∀ W, Own16 (w.heap.size + 2) l (.slice a l.length cap) W → Cp 44 #[.slice a l.length cap] W fun e w' => e = .returned (.string X) ∧ Below W.heap.size W w' from fun W h => by rw [← hX]; exact make_own h HJ2.out hlb)
    have CR := fun W => xReserved_any X W hXs
    rw [hXu] at CR
    have HE : ∀ b : Bool, resB l = b → Hid (TokE (namV (some (l, esc, j))) = .returned (.tuple #[.agg #[.int .i64 (if b = true then 3 else 2), .string X, .float .f64 0, .bool esc, .bool false, .int .i64 0, .int .i64 (j : Int)], .bool true])) := fun b hb => Lib.hid (by
     unfold TokE namV tkV
     rw [Option.map_some, hX, hb]
     cases b <;> rfl)
    cases hr : resB l
    ·rw [hr] at CR
     have HE1 := HE false hr
     have CR := Lib.hid CR
     clear HR hf h4 hcl hcu h92 hX hXu hXs hlb HE hr hsz c3
     go_wp2
     go_quiet ((go_at_call 36; exact Calls.quiet_of (C1.out _)))
     go_wp2_with fail
     refine (CF2.out _).mono ?_
     rintro e w' ⟨rfl, rfl⟩
     go_wp2_with fail
     refine (CM.out _ (show Own16 (w.heap.size + 2) l (.slice a l.length cap) (wr.drewN nq) from H)).mono ?_
     rintro e w1 ⟨rfl, b1⟩
     have NB1 := (NB0.draw nq).step b1
     obtain ⟨c0, c1, c3, d6, fz⟩ := NB1.cells
     have f1 := fz 1
     have NB2 := NB1.put1 X
     obtain ⟨e0, e1, e3, e6, fy⟩ := NB2.cells
     clear b1 c0 c3 d6 fz e0 e3 e6 fy H c6 f6
     go_wp2_with fail
     refine (CR.out _).mono ?_
     rintro e w2 ⟨rfl, b2⟩
     have NB3 := NB2.step b2
     obtain ⟨k0, k1, k2, k3, k4, k5, k6⟩ := NB3.all
     have HG := Lib.hid NB3.tb.bl
     have HB := Lib.hid NB3.tb.bw
     clear b2 NB0 NB1 NB2 NB3 c1 f1 e1
     go_wp2_with (refine tkS rfl rfl w.heap.size 2 X 0 esc false 0 (j : Int) rfl rfl HG.out ?_)
     refine tkR rfl rfl HG.out rfl rfl ⟨?_, below_setRowK HB.out (Nat.le_refl _) _⟩
     exact HE1.out.symm
    ·rw [hr] at CR
     have HE1 := HE true hr
     have CR := Lib.hid CR
     clear HR hf h4 hcl hcu h92 hX hXu hXs hlb HE hr hsz c3
     go_wp2
     go_quiet ((go_at_call 36; exact Calls.quiet_of (C1.out _)))
     go_wp2_with fail
     refine (CF2.out _).mono ?_
     rintro e w' ⟨rfl, rfl⟩
     go_wp2_with fail
     refine (CM.out _ (show Own16 (w.heap.size + 2) l (.slice a l.length cap) (wr.drewN nq) from H)).mono ?_
     rintro e w1 ⟨rfl, b1⟩
     have NB1 := (NB0.draw nq).step b1
     obtain ⟨c0, c1, c3, d6, fz⟩ := NB1.cells
     have f1 := fz 1
     have NB2 := NB1.put1 X
     obtain ⟨e0, e1, e3, e6, fy⟩ := NB2.cells
     clear b1 c0 c3 d6 fz e0 e3 e6 fy H c6 f6
     go_wp2_with fail
     refine (CR.out _).mono ?_
     rintro e w2 ⟨rfl, b2⟩
     have NB3 := NB2.step b2
     obtain ⟨k0, k1, k2, k3, k4, k5, k6⟩ := NB3.all
     have f0 := NB3.cells.2.2.2.2 0
     have NB4 := NB3.put0 3
     have HG := Lib.hid NB4.tb.bl
     have HB := Lib.hid NB4.tb.bw
     clear b2 NB0 NB1 NB2 NB3 NB4 c1 f1 e1
     go_wp2_with (refine tkS rfl rfl w.heap.size 3 X 0 esc false 0 (j : Int) rfl rfl HG.out ?_)
     refine tkR rfl rfl HG.out rfl rfl ⟨?_, below_setRowK HB.out (Nat.le_refl _) _⟩
     exact HE1.out.symm
   ·rw [hf] at CF2
    have CF2 := Lib.hid CF2
    have hj6 : j + 1 ≤ ln s := hcl (by rintro rfl; revert hf; cases b0 <;> decide)
    have HN : Hid (namR (j + 1) (l ++ [c]) esc s = R) := Lib.hid (by
     rw [h4]
     simp only [hf, if_true]
     unfold namR
     rw [show ((l ++ [c]).length == 0) = false by simp]
     cases namG false ((us s).drop (j + 1)) with
     | none => rfl
     | some p => simp; omega)
    have HU : Hid ((l ++ [c]).length ≤ j + 1 ∧ ∀ u ∈ l ++ [c], u < 65536) := Lib.hid ⟨by rw [List.length_append, List.length_singleton]; have := HJ1.out; omega, fun u hu => by
     rcases List.mem_append.1 hu with h | h
     ·exact HJ2.out u h
     ·simp at h; omega⟩
    have HJ6 := Lib.hid hj6
    clear HR hf h4 hcl hcu hj6 h92
    cases esc
    all_goals
     go_wp2
     go_quiet ((go_at_call 36; exact Calls.quiet_of (C1.out _)))
     go_wp2_with fail
     refine (CF2.out _).mono ?_
     rintro e w' ⟨rfl, rfl⟩
     go_wp2_with (at_builtin; refine wpList_append_own _ rfl _ _ 57 rfl (w.heap.size + 2) 52 i0 (.int .u16 0) 1 2 Tryz.underlying57 hi hz0 hz1 hz2 rfl (by decide) _ _ _ rfl (World.ownsRow.alloc (w := (wr.drewN (nq))) H _) ⟨(wr.drewN (nq)).heap.size, 0, none⟩ 1 1 [.int .u16 (c : Nat)] rfl rfl ?c1 ?c2 ?c3 ?c4 ?c5 ?_)
     case c1 => exact (cell_one_new _ _ _)
     case c2 => simp [Value.oneCell']
     case c3 => unfold maxLen; omega
     case c4 => omega
     case c5 => simp; omega
     intro v' w1 hown hg _
     have hbw : Below (w.heap.size + 2) wr w1 := ((below_drewN' (Below.refl _ wr) nq).alloc (by simpa using hsz) _).grown hg (by simp; omega) (fun j hj => (World.ownsRow.lt H j hj).1)
     have NB1 := NB0.base hbw
     obtain ⟨c0, c1, d3, d6, fz⟩ := NB1.cells
     have f3 := fz 3
     have f6 := fz 6
     have o1 : Own16 (w.heap.size + 2) (l ++ [c]) v' w1 := by simpa [Own16] using hown
     have HX := fun (b : Bool) => Lib.hid (show NmP w s (j + 1) (l ++ [c]) b v' ((w1.setCell ⟨w.heap.size + 1, 6, none⟩ (.int .i64 ((j + 1 : Nat) : Int))).setCell ⟨w.heap.size + 1, 3, none⟩ (.bool b)) R ∨ namR (j + 1) (l ++ [c]) b s ≠ R from if h : namR (j + 1) (l ++ [c]) b s = R then .inl ⟨HU.out.1, HU.out.2, h, (NB1.put6 (j + 1)).put3 b, own16_set (own16_set o1 (by omega) _) (by omega) _⟩ else .inr h)
     have HW := Lib.hid (own16_len o1)
     clear NB0 NB1 hbw hown hg H o1 fz c0 c1 c3 c6
     go_wp2
     go_roundw
     case rel => exact ⟨j + 1, l ++ [c], v', _, rfl, HJ6.out, Lib.hid ((HX _).out.resolve_right (fun h => h HN.out))⟩
     case measure =>
      obtain ⟨a', cap', rfl⟩ := HW.out
      have := HLT.out
      simp [lenOf] at this ⊢
      omega

end
section
open Go.RowKit
theorem tw_next (f : Nat → Bool) (h0 : f 0 = false) (L : List Nat) (j : Nat) : ((L.drop j).takeWhile f).length = if f (hd0 (L.drop j)) = true then 1 + ((L.drop (j + 1)).takeWhile f).length else 0 := by
 rcases hd : L.drop j with _ | ⟨c, r⟩
 ·have : hd0 ([] : List Nat) = 0 := rfl
  rw [this, h0]
  rfl
 ·have h1 : L.drop (j + 1) = r := by rw [← List.drop_drop, hd]; rfl
  have h2 : hd0 (c :: r) = c := rfl
  rw [h1, h2, List.takeWhile_cons]
  cases f c
  ·rfl
  ·simp; omega
theorem tw_le (f : Nat → Bool) (L : List Nat) (j : Nat) (hj : j ≤ L.length) : j + ((L.drop j).takeWhile f).length ≤ L.length := by
 have := (List.takeWhile_sublist f (l := L.drop j)).length_le
 rw [List.length_drop] at this
 omega
theorem tw_drop (f : Nat → Bool) (L : List Nat) (j : Nat) : L.drop (j + ((L.drop j).takeWhile f).length) = (L.drop j).dropWhile f := by
 rw [← List.drop_drop]
 have h := List.takeWhile_append_dropWhile (p := f) (l := L.drop j)
 generalize (L.drop j).takeWhile f = A at h ⊢
 generalize (L.drop j).dropWhile f = D at h ⊢
 rw [← h, List.drop_left]
theorem hd0_pos {L : List Nat} {j c : Nat} (hc : c ≠ 0) (h : hd0 (L.drop j) = c) : j + 1 ≤ L.length := by
 rcases Nat.lt_or_ge j L.length with h1 | h1
 ·exact h1
 ·rw [List.drop_eq_nil_iff.2 h1] at h
  exact absurd h.symm hc
theorem xdec_end (s : ByteArray) (k : Nat) (w : World) (hs : s.size ≤ 140737488355328) (hk : k ≤ ln s) :
  Cp 195 #[.string s, .int .i64 k, .func (.func 70) #[] #[]] w fun e w' => e = .returned (.int .i64 ((k + (((us s).drop k).takeWhile dg10).length : Nat) : Int)) ∧ ∃ n, w' = w.drewN n := by
 have hs63 : s.size ≤ maxLen := by unfold maxLen; omega
 have hln := ln_le s
 have hll : (ln s : Int) ≤ 70368744177664 := by omega
 have C1 := Lib.hid (fun (j : Nat) W => xunit_any s j W hs63)
 have C2 := Lib.hid (fun (c : Nat) W => xdecimal_any c W)
 obtain ⟨R, hR⟩ : ∃ R, k + (((us s).drop k).takeWhile dg10).length = R := ⟨_, rfl⟩
 rw [hR]
 have HR := Lib.hid hR
 clear hs hs63 hR hln
 go_enter Tryz.func195, Tryz.ntmps195
 go_wp2
 go_loopw [1] (fun av wr => ∃ (j : Nat), av = .int .i64 j ∧ j ≤ ln s ∧ Hid (j + (((us s).drop j).takeWhile dg10).length = R) ∧ ∃ n, wr = w.drewN n) (fun av _ => ln s - (intOf av).toNat)
 case atStart => exact ⟨k, rfl, hk, HR, 0, rfl⟩
 case round =>
  obtain ⟨j, rfl, hj, HJ, n0, rfl⟩ := hrel
  have h1 := HJ.out
  rw [tw_next dg10 (by decide)] at h1
  obtain ⟨c, hc⟩ : ∃ c, hd0 ((us s).drop j) = c := ⟨_, rfl⟩
  have C3 := C1.out j
  rw [hc] at h1 C3
  have C3 := Lib.hid C3
  have C4 := C2.out c
  cases hb : dg10 c
  ·rw [hb] at C4 h1
   rw [if_neg (by simp), Nat.add_zero] at h1
   subst h1
   have C4 := Lib.hid C4
   clear hb hc HJ HR
   go_wp2_with fail
   refine (C3.out _).mono ?_
   rintro e w' ⟨rfl, n1, rfl⟩
   go_wp2_with fail
   refine (C4.out _).mono ?_
   rintro e w' ⟨rfl, rfl⟩
   go_wp2
   go_ret
   exact ⟨rfl, n0 + n1, by first | rfl | simp⟩
  ·rw [hb] at C4 h1
   rw [if_pos rfl] at h1
   have hlt : j + 1 ≤ ln s := by
    have := hd0_pos (c := c) (by rintro rfl; revert hb; decide) hc
    rw [us_length] at this
    exact this
   have HJ2 : Hid (j + 1 + (((us s).drop (j + 1)).takeWhile dg10).length = R) := Lib.hid (by omega)
   have C4 := Lib.hid C4
   clear hb hc HJ h1
   go_wp2_with fail
   refine (C3.out _).mono ?_
   rintro e w' ⟨rfl, n1, rfl⟩
   go_wp2_with fail
   refine (C4.out _).mono ?_
   rintro e w' ⟨rfl, rfl⟩
   go_wp2
   go_roundw
   case rel => exact ⟨j + 1, by go_num, hlt, HJ2, n0 + n1, by first | rfl | simp⟩
   case measure => simp [intOf]; omega
theorem xhxd_end (s : ByteArray) (k : Nat) (w : World) (hs : s.size ≤ 140737488355328) (hk : k ≤ ln s) :
  Cp 195 #[.string s, .int .i64 k, .func (.func 196) #[] #[]] w fun e w' => e = .returned (.int .i64 ((k + (((us s).drop k).takeWhile hx16).length : Nat) : Int)) ∧ ∃ n, w' = w.drewN n := by
 have hs63 : s.size ≤ maxLen := by unfold maxLen; omega
 have hln := ln_le s
 have hll : (ln s : Int) ≤ 70368744177664 := by omega
 have C1 := Lib.hid (fun (j : Nat) W => xunit_any s j W hs63)
 have C2 := Lib.hid (fun (c : Nat) W => xhexadecimal_any c W)
 obtain ⟨R, hR⟩ : ∃ R, k + (((us s).drop k).takeWhile hx16).length = R := ⟨_, rfl⟩
 rw [hR]
 have HR := Lib.hid hR
 clear hs hs63 hR hln
 go_enter Tryz.func195, Tryz.ntmps195
 go_wp2
 go_loopw [1] (fun av wr => ∃ (j : Nat), av = .int .i64 j ∧ j ≤ ln s ∧ Hid (j + (((us s).drop j).takeWhile hx16).length = R) ∧ ∃ n, wr = w.drewN n) (fun av _ => ln s - (intOf av).toNat)
 case atStart => exact ⟨k, rfl, hk, HR, 0, rfl⟩
 case round =>
  obtain ⟨j, rfl, hj, HJ, n0, rfl⟩ := hrel
  have h1 := HJ.out
  rw [tw_next hx16 (by decide)] at h1
  obtain ⟨c, hc⟩ : ∃ c, hd0 ((us s).drop j) = c := ⟨_, rfl⟩
  have C3 := C1.out j
  rw [hc] at h1 C3
  have C3 := Lib.hid C3
  have C4 := C2.out c
  cases hb : hx16 c
  ·rw [hb] at C4 h1
   rw [if_neg (by simp), Nat.add_zero] at h1
   subst h1
   have C4 := Lib.hid C4
   clear hb hc HJ HR
   go_wp2_with fail
   refine (C3.out _).mono ?_
   rintro e w' ⟨rfl, n1, rfl⟩
   go_wp2_with fail
   refine (C4.out _).mono ?_
   rintro e w' ⟨rfl, rfl⟩
   go_wp2
   go_ret
   exact ⟨rfl, n0 + n1, by first | rfl | simp⟩
  ·rw [hb] at C4 h1
   rw [if_pos rfl] at h1
   have hlt : j + 1 ≤ ln s := by
    have := hd0_pos (c := c) (by rintro rfl; revert hb; decide) hc
    rw [us_length] at this
    exact this
   have HJ2 : Hid (j + 1 + (((us s).drop (j + 1)).takeWhile hx16).length = R) := Lib.hid (by omega)
   have C4 := Lib.hid C4
   clear hb hc HJ h1
   go_wp2_with fail
   refine (C3.out _).mono ?_
   rintro e w' ⟨rfl, n1, rfl⟩
   go_wp2_with fail
   refine (C4.out _).mono ?_
   rintro e w' ⟨rfl, rfl⟩
   go_wp2
   go_roundw
   case rel => exact ⟨j + 1, by go_num, hlt, HJ2, n0 + n1, by first | rfl | simp⟩
   case measure => simp [intOf]; omega
/-! ### numberEnd -/
theorem hd0_head {l : List Nat} {c : Nat} (hc : c ≠ 0) : hd0 l = c ↔ l.head? = some c := by
 cases l with
 | nil => simp [hd0]; omega
 | cons a r => simp [hd0]
theorem num_dot {L : List Nat} {k : Nat} (hk : k ≤ L.length) {p1 : Nat} (h1 : k + ((L.drop k).takeWhile dg10).length = p1) :
  p1 ≤ L.length ∧ (hd0 (L.drop p1) ≠ 46 → L.drop p1 = dT (L.drop k)) ∧
  (hd0 (L.drop p1) = 46 → p1 + 1 ≤ L.length ∧ L.drop (p1 + 1 + ((L.drop (p1 + 1)).takeWhile dg10).length) = dT (L.drop k) ∧ p1 + 1 + ((L.drop (p1 + 1)).takeWhile dg10).length ≤ L.length) := by
 have e1 : L.drop p1 = aft10 (L.drop k) := by rw [← h1]; exact tw_drop dg10 L k
 refine ⟨by rw [← h1]; exact tw_le dg10 L k hk, fun h => ?_, fun h => ?_⟩
 ·unfold dT dotB
  rw [e1] at h ⊢
  rw [if_neg]
  intro h2
  exact h ((hd0_head (by omega)).2 (by simpa using h2))
 ·have h3 := hd0_pos (by omega) h
  refine ⟨h3, ?_, tw_le dg10 L _ h3⟩
  rw [tw_drop dg10 L (p1 + 1), ← List.tail_drop]
  unfold dT dotB
  rw [e1] at h ⊢
  rw [if_pos (by rw [(hd0_head (by omega)).1 h]; rfl)]
  rfl
theorem num_exp {L : List Nat} {k p2 : Nat} (hk : k ≤ L.length) (hx : hxA (L.drop k) = false) (h2 : L.drop p2 = dT (L.drop k)) (hp : p2 ≤ L.length) :
  (hd0 (L.drop p2) ≠ 101 ∧ hd0 (L.drop p2) ≠ 69 → k + numP (L.drop k) = p2) ∧
  (hd0 (L.drop p2) = 101 ∨ hd0 (L.drop p2) = 69 → p2 + 1 ≤ L.length ∧
   (hd0 (L.drop (p2 + 1)) = 43 ∨ hd0 (L.drop (p2 + 1)) = 45 → p2 + 2 ≤ L.length ∧ k + numP (L.drop k) = p2 + 2 + ((L.drop (p2 + 2)).takeWhile dg10).length) ∧
   (hd0 (L.drop (p2 + 1)) ≠ 43 ∧ hd0 (L.drop (p2 + 1)) ≠ 45 → k + numP (L.drop k) = p2 + 1 + ((L.drop (p2 + 1)).takeWhile dg10).length)) := by
 have hlen : ∀ p, p ≤ L.length → ∀ X, L.drop p = X → L.length - k + p = L.length - k + L.length - X.length := fun p hp X h => by
  have := congrArg List.length h
  rw [List.length_drop] at this
  omega
 unfold numP
 rw [hx, if_neg (by simp), ← h2, List.length_drop]
 refine ⟨fun ⟨g1, g2⟩ => ?_, fun g => ?_⟩
 ·rw [if_neg, List.length_drop]
  ·have : k ≤ p2 := by
    have h3 : (L.drop p2).length ≤ (L.drop k).length := by
     rw [h2]
     obtain ⟨X, hX⟩ := dT_suf (L.drop k)
     have := congrArg List.length hX
     rw [List.length_append] at this
     omega
    rw [List.length_drop, List.length_drop] at h3
    omega
   omega
  ·rintro (h | h)
   ·exact g1 ((hd0_head (by omega)).2 h)
   ·exact g2 ((hd0_head (by omega)).2 h)
 ·have hk2 : k ≤ p2 := by
   have h3 : (L.drop p2).length ≤ (L.drop k).length := by
    rw [h2]
    obtain ⟨X, hX⟩ := dT_suf (L.drop k)
    have := congrArg List.length hX
    rw [List.length_append] at this
    omega
   rw [List.length_drop, List.length_drop] at h3
   omega
  have hp1 : p2 + 1 ≤ L.length := by
   rcases g with g | g
   ·exact hd0_pos (by omega) g
   ·exact hd0_pos (by omega) g
  rw [if_pos (by rcases g with g | g; exact .inl ((hd0_head (by omega)).1 g); exact .inr ((hd0_head (by omega)).1 g))]
  refine ⟨hp1, fun g2 => ?_, fun ⟨g2, g3⟩ => ?_⟩
  ·have hp2 : p2 + 2 ≤ L.length := by
    rcases g2 with g2 | g2
    ·exact hd0_pos (j := p2 + 1) (by omega) g2
    ·exact hd0_pos (j := p2 + 1) (by omega) g2
   refine ⟨hp2, ?_⟩
   have e : expR (L.drop p2) = L.drop (p2 + 2 + ((L.drop (p2 + 2)).takeWhile dg10).length) := by
    rw [tw_drop dg10 L (p2 + 2)]
    unfold expR unsg
    rw [List.tail_drop, if_pos (by rcases g2 with g2 | g2; exact .inr ((hd0_head (by omega)).1 g2); exact .inl ((hd0_head (by omega)).1 g2)), List.tail_drop]
    rfl
   rw [e, List.length_drop]
   have := tw_le dg10 L (p2 + 2) hp2
   omega
  ·have e : expR (L.drop p2) = L.drop (p2 + 1 + ((L.drop (p2 + 1)).takeWhile dg10).length) := by
    rw [tw_drop dg10 L (p2 + 1)]
    unfold expR unsg
    rw [List.tail_drop, if_neg]
    ·rfl
    ·rintro (h | h)
     ·exact g3 ((hd0_head (by omega)).2 h)
     ·exact g2 ((hd0_head (by omega)).2 h)
   rw [e, List.length_drop]
   have := tw_le dg10 L (p2 + 1) hp1
   omega
theorem hxA_hd (L : List Nat) (k : Nat) : hxA (L.drop k) = (hd0 (L.drop k) == 48 && (hd0 (L.drop (k + 1)) == 120 || hd0 (L.drop (k + 1)) == 88)) := by
 unfold hxA
 rw [List.tail_drop]
 have h : ∀ (l : List Nat) (c : Nat), c ≠ 0 → (l.head? == some c) = (hd0 l == c) := fun l c hc => by
  rw [Bool.eq_iff_iff]
  simp only [beq_iff_eq]
  exact (hd0_head hc).symm
 rw [h _ _ (by omega), h _ _ (by omega), h _ _ (by omega)]
theorem xnumberEnd_hex (s : ByteArray) (k : Nat) (w : World) (hs : s.size ≤ 140737488355328) (hk : k ≤ ln s) (hx : hxA ((us s).drop k) = true) :
  Cp 107 #[.string s, .int .i64 k] w fun e w' => e = .returned (.int .i64 ((k + numP ((us s).drop k) : Nat) : Int)) ∧ ∃ n, w' = w.drewN n := by
 have hs63 : s.size ≤ maxLen := by unfold maxLen; omega
 have hln := ln_le s
 have hll : (ln s : Int) ≤ 70368744177664 := by omega
 have hkl : (k : Int) ≤ 70368744177664 := by omega
 have CU : ∀ p W, Cp 36 #[.string s, .int .i64 ((p : Nat) : Int)] W fun e w' => e = .returned (.int .u16 ((hd0 ((us s).drop p) : Nat) : Int)) ∧ ∃ n, w' = W.drewN n := fun p W => xunit_any s p W hs63
 have CU1 : ∀ p W, Cp 36 #[.string s, .int .i64 (((p : Nat) : Int) + 1)] W fun e w' => e = .returned (.int .u16 ((hd0 ((us s).drop (p + 1)) : Nat) : Int)) ∧ ∃ n, w' = W.drewN n := fun p W => xunit_any s (p + 1) W hs63
 obtain ⟨c, hc⟩ : ∃ c, hd0 ((us s).drop k) = c := ⟨_, rfl⟩
 obtain ⟨d, hd⟩ : ∃ d, hd0 ((us s).drop (k + 1)) = d := ⟨_, rfl⟩
 have C1 := CU1 k
 have C2 := CU k
 rw [hd] at C1
 rw [hc] at C2
 rw [hxA_hd, hc, hd] at hx
 have h48 : c = 48 := by
  rw [Bool.and_eq_true] at hx
  simpa using hx.1
 have hxX : d = 120 ∨ d = 88 := by
  rw [Bool.and_eq_true] at hx
  simpa using hx.2
 have hk2 : k + 2 ≤ ln s := by
  have := hd0_pos (L := us s) (j := k + 1) (c := d) (by omega) hd
  rw [us_length] at this
  exact this
 have C3 : ∀ W, Cp 195 #[.string s, .int .i64 ((k : Int) + 2), .func (.func 196) #[] #[]] W fun e w' => e = .returned (.int .i64 ((k + numP ((us s).drop k) : Nat) : Int)) ∧ ∃ n, w' = W.drewN n := fun W => by
  have h := xhxd_end s (k + 2) W hs hk2
  have e : k + numP ((us s).drop k) = k + 2 + (((us s).drop (k + 2)).takeWhile hx16).length := by
   unfold numP
   rw [if_pos (by rw [hxA_hd, hc, hd]; exact hx), List.drop_drop]
   omega
  rw [e]
  exact h
 obtain ⟨R, hR⟩ : ∃ R, k + numP ((us s).drop k) = R := ⟨_, rfl⟩
 rw [hR] at C3 ⊢
 have C1 := Lib.hid C1
 have C2 := Lib.hid C2
 have C3 := Lib.hid C3
 subst h48
 clear CU CU1 hs hs63 hx hc hd hR hln
 rcases hxX with rfl | rfl
 all_goals
  go_enter Tryz.func107, Tryz.ntmps107
  go_wp2_with fail
  refine (C1.out _).mono ?_
  rintro e w' ⟨rfl, n1, rfl⟩
  go_wp2_with fail
  refine (C2.out _).mono ?_
  rintro e w' ⟨rfl, n2, rfl⟩
  go_wp2_with fail
  refine (C3.out _).mono ?_
  rintro e w' ⟨rfl, n3, rfl⟩
  go_wp2
  go_ret
  exact ⟨rfl, n1 + n2 + n3, by first | rfl | simp⟩
theorem xnumberEnd_a (s : ByteArray) (k : Nat) (w : World) (hs : s.size ≤ 140737488355328) (hk : k ≤ ln s) (h48 : hd0 ((us s).drop k) ≠ 48) :
  Cp 107 #[.string s, .int .i64 k] w fun e w' => e = .returned (.int .i64 ((k + numP ((us s).drop k) : Nat) : Int)) ∧ ∃ n, w' = w.drewN n := by
 have hs63 : s.size ≤ maxLen := by unfold maxLen; omega
 have hln := ln_le s
 have hll : (ln s : Int) ≤ 70368744177664 := by omega
 have hkl : (k : Int) ≤ 70368744177664 := by omega
 have CU : ∀ p W, Cp 36 #[.string s, .int .i64 ((p : Nat) : Int)] W fun e w' => e = .returned (.int .u16 ((hd0 ((us s).drop p) : Nat) : Int)) ∧ ∃ n, w' = W.drewN n := fun p W => xunit_any s p W hs63
 have CU1 : ∀ p W, Cp 36 #[.string s, .int .i64 (((p : Nat) : Int) + 1)] W fun e w' => e = .returned (.int .u16 ((hd0 ((us s).drop (p + 1)) : Nat) : Int)) ∧ ∃ n, w' = W.drewN n := fun p W => xunit_any s (p + 1) W hs63
 obtain ⟨c, hc⟩ : ∃ c, hd0 ((us s).drop k) = c := ⟨_, rfl⟩
 obtain ⟨d, hd⟩ : ∃ d, hd0 ((us s).drop (k + 1)) = d := ⟨_, rfl⟩
 have C1 := CU1 k
 have C2 := CU k
 rw [hd] at C1
 rw [hc] at C2
 have hx : hxA ((us s).drop k) = false := by
  rw [hxA_hd]
  simp [h48]
 rw [hc] at h48
 have g1 : ((c : Int) == 48) = false := by rw [beq_eq_false_iff_ne]; omega
 obtain ⟨R, hR⟩ : ∃ R, k + numP ((us s).drop k) = R := ⟨_, rfl⟩
 rw [hR]
 have HR := Lib.hid hR
 have HX := Lib.hid hx
 have HS := Lib.hid hs
 have HLL := Lib.hid hll
 have HKL : Hid (k ≤ (us s).length) := Lib.hid (by rw [us_length]; exact hk)
 obtain ⟨p1, hp1⟩ : ∃ p1, k + (((us s).drop k).takeWhile dg10).length = p1 := ⟨_, rfl⟩
 have C3 := fun W => xdec_end s k W hs hk
 rw [hp1] at C3
 obtain ⟨hb1, hnd, hdt⟩ := num_dot HKL.out hp1
 have C4 := CU p1
 obtain ⟨c1, hc1⟩ : ∃ c1, hd0 ((us s).drop p1) = c1 := ⟨_, rfl⟩
 rw [hc1] at C4 hnd hdt
 have hp1l : (p1 : Int) ≤ 70368744177664 := by have := hb1; rw [us_length] at this; omega
 have C3 := Lib.hid C3
 have C4 := Lib.hid C4
 have C1 := Lib.hid C1
 have C2 := Lib.hid C2
 have CU := Lib.hid CU
 have CU1 := Lib.hid CU1
 have HB1 := Lib.hid hb1
 have HND := Lib.hid hnd
 have HDT := Lib.hid hdt
 clear h48
 clear hs hs63 hln hll hx hc hd hk hR hp1 hb1 hnd hdt hc1
 go_enter Tryz.func107, Tryz.ntmps107
 go_wp2_with fail
 refine (C1.out _).mono ?_
 rintro e w' ⟨rfl, n1, rfl⟩
 go_wp2_with fail
 refine (C2.out _).mono ?_
 rintro e w' ⟨rfl, n2, rfl⟩
 go_wp2_with fail
 refine (C3.out _).mono ?_
 rintro e w' ⟨rfl, n3, rfl⟩
 go_wp2_with fail
 refine (C4.out _).mono ?_
 rintro e w' ⟨rfl, n4, rfl⟩
 by_cases h46 : c1 = 46
 ·have HD := HDT.out h46
  have C5 := Lib.hid (show ∀ W, Cp 195 #[.string s, .int .i64 ((p1 : Int) + 1), .func (.func 70) #[] #[]] W fun e w' => e = .returned (.int .i64 ((p1 + 1 + (((us s).drop (p1 + 1)).takeWhile dg10).length : Nat) : Int)) ∧ ∃ n, w' = W.drewN n from fun W => xdec_end s (p1 + 1) W HS.out (by have := HD.1; rw [us_length] at this; exact this))
  obtain ⟨p2, hp2d⟩ : ∃ p2, p1 + 1 + (((us s).drop (p1 + 1)).takeWhile dg10).length = p2 := ⟨_, rfl⟩
  obtain ⟨_, hp2, hb2⟩ := HD
  rw [hp2d] at C5 hp2 hb2
  have HP2 := Lib.hid hp2
  have HB2 := Lib.hid hb2
  subst h46
  clear hp2d hp2 hb2
  go_wp2_with fail
  refine (C5.out _).mono ?_
  rintro e w' ⟨rfl, n5, rfl⟩
  have hp2 := HP2.out
  have hb2 := HB2.out
  have hpl : (p2 : Int) ≤ 70368744177664 := by have := HLL.out; have := hb2; rw [us_length] at this; omega
  obtain ⟨c2, hc2⟩ : ∃ c2, hd0 ((us s).drop p2) = c2 := ⟨_, rfl⟩
  have C6 := CU.out p2
  rw [hc2] at C6
  have C6 := Lib.hid C6
  obtain ⟨q1, q2⟩ := num_exp HKL.out HX.out hp2 hb2
  rw [hc2] at q1 q2
  obtain ⟨c3, hc3⟩ : ∃ c3, hd0 ((us s).drop (p2 + 1)) = c3 := ⟨_, rfl⟩
  have C7 := CU1.out p2
  rw [hc3] at C7 q2
  have C7 := Lib.hid C7
  have Q1 := Lib.hid q1
  have Q2 := Lib.hid q2
  clear q1 q2 hc2 hc3 hp2 hb2
  by_cases he : c2 = 101 ∨ c2 = 69
  ·have Q3 := Lib.hid (Q2.out he)
   rcases he with rfl | rfl
   all_goals
    go_wp2_with fail
    refine (C6.out _).mono ?_
    rintro e w' ⟨rfl, n6, rfl⟩
    go_wp2_with fail
    refine (C7.out _).mono ?_
    rintro e w' ⟨rfl, n7, rfl⟩
    by_cases hsg : c3 = 43 ∨ c3 = 45
    ·obtain ⟨hb4, hRe⟩ := Q3.out.2.1 hsg
     have C8 := Lib.hid (show ∀ W, Cp 195 #[.string s, .int .i64 ((p2 : Int) + 1 + 1), .func (.func 70) #[] #[]] W fun e w' => e = .returned (.int .i64 (R : Nat)) ∧ ∃ n, w' = W.drewN n from fun W => by
      rw [← HR.out, hRe]; exact xdec_end s (p2 + 2) W HS.out (by rw [us_length] at hb4; omega))
     clear hb4 hRe
     rcases hsg with rfl | rfl
     all_goals
      go_wp2_with fail
      with_reducible refine (C8.out _).mono ?_
      rintro e w' ⟨rfl, n8, rfl⟩
      go_wp2
      go_ret
      exact ⟨rfl, n1 + n2 + n3 + n4 + n5 + n6 + n7 + n8, by first | rfl | simp⟩
    ·have hRe := Q3.out.2.2 (by omega)
     have hb3 := Q3.out.1
     have C8 := Lib.hid (show ∀ W, Cp 195 #[.string s, .int .i64 ((p2 : Int) + 1), .func (.func 70) #[] #[]] W fun e w' => e = .returned (.int .i64 (R : Nat)) ∧ ∃ n, w' = W.drewN n from fun W => by
      rw [← HR.out, hRe]; exact xdec_end s (p2 + 1) W HS.out (by rw [us_length] at hb3; omega))
     have f1 : ((c3 : Int) == 43) = false := by rw [beq_eq_false_iff_ne]; omega
     have f2 : ((c3 : Int) == 45) = false := by rw [beq_eq_false_iff_ne]; omega
     clear hb3 hRe hsg
     go_wp2_with fail
     with_reducible refine (C8.out _).mono ?_
     rintro e w' ⟨rfl, n8, rfl⟩
     go_wp2
     go_ret
     exact ⟨rfl, n1 + n2 + n3 + n4 + n5 + n6 + n7 + n8, by first | rfl | simp⟩
  ·have HRe := Lib.hid (Q1.out (by omega))
   have f1 : ((c2 : Int) != 101) = true := by simp; omega
   have f2 : ((c2 : Int) != 69) = true := by simp; omega
   have hRp : R = p2 := by rw [← HR.out, HRe.out]
   subst hRp
   clear he HRe
   go_wp2_with fail
   refine (C6.out _).mono ?_
   rintro e w' ⟨rfl, n6, rfl⟩
   go_wp2
   go_ret
   exact ⟨rfl, n1 + n2 + n3 + n4 + n5 + n6, by first | rfl | simp⟩
 ·have hp2 := HND.out h46
  have hb2 := HB1.out
  have g4 : ((c1 : Int) == 46) = false := by rw [beq_eq_false_iff_ne]; omega
  clear h46
  have hpl : (p1 : Int) ≤ 70368744177664 := by have := HLL.out; have := hb2; rw [us_length] at this; omega
  obtain ⟨c2, hc2⟩ : ∃ c2, hd0 ((us s).drop p1) = c2 := ⟨_, rfl⟩
  have C6 := CU.out p1
  rw [hc2] at C6
  have C6 := Lib.hid C6
  obtain ⟨q1, q2⟩ := num_exp HKL.out HX.out hp2 hb2
  rw [hc2] at q1 q2
  obtain ⟨c3, hc3⟩ : ∃ c3, hd0 ((us s).drop (p1 + 1)) = c3 := ⟨_, rfl⟩
  have C7 := CU1.out p1
  rw [hc3] at C7 q2
  have C7 := Lib.hid C7
  have Q1 := Lib.hid q1
  have Q2 := Lib.hid q2
  clear q1 q2 hc2 hc3 hp2 hb2
  by_cases he : c2 = 101 ∨ c2 = 69
  ·have Q3 := Lib.hid (Q2.out he)
   rcases he with rfl | rfl
   all_goals
    go_wp2_with fail
    refine (C6.out _).mono ?_
    rintro e w' ⟨rfl, n6, rfl⟩
    go_wp2_with fail
    refine (C7.out _).mono ?_
    rintro e w' ⟨rfl, n7, rfl⟩
    by_cases hsg : c3 = 43 ∨ c3 = 45
    ·obtain ⟨hb4, hRe⟩ := Q3.out.2.1 hsg
     have C8 := Lib.hid (show ∀ W, Cp 195 #[.string s, .int .i64 ((p1 : Int) + 1 + 1), .func (.func 70) #[] #[]] W fun e w' => e = .returned (.int .i64 (R : Nat)) ∧ ∃ n, w' = W.drewN n from fun W => by
      rw [← HR.out, hRe]; exact xdec_end s (p1 + 2) W HS.out (by rw [us_length] at hb4; omega))
     clear hb4 hRe
     rcases hsg with rfl | rfl
     all_goals
      go_wp2_with fail
      with_reducible refine (C8.out _).mono ?_
      rintro e w' ⟨rfl, n8, rfl⟩
      go_wp2
      go_ret
      exact ⟨rfl, n1 + n2 + n3 + n4 + n6 + n7 + n8, by first | rfl | simp⟩
    ·have hRe := Q3.out.2.2 (by omega)
     have hb3 := Q3.out.1
     have C8 := Lib.hid (show ∀ W, Cp 195 #[.string s, .int .i64 ((p1 : Int) + 1), .func (.func 70) #[] #[]] W fun e w' => e = .returned (.int .i64 (R : Nat)) ∧ ∃ n, w' = W.drewN n from fun W => by
      rw [← HR.out, hRe]; exact xdec_end s (p1 + 1) W HS.out (by rw [us_length] at hb3; omega))
     have f1 : ((c3 : Int) == 43) = false := by rw [beq_eq_false_iff_ne]; omega
     have f2 : ((c3 : Int) == 45) = false := by rw [beq_eq_false_iff_ne]; omega
     clear hb3 hRe hsg
     go_wp2_with fail
     with_reducible refine (C8.out _).mono ?_
     rintro e w' ⟨rfl, n8, rfl⟩
     go_wp2
     go_ret
     exact ⟨rfl, n1 + n2 + n3 + n4 + n6 + n7 + n8, by first | rfl | simp⟩
  ·have HRe := Lib.hid (Q1.out (by omega))
   have f1 : ((c2 : Int) != 101) = true := by simp; omega
   have f2 : ((c2 : Int) != 69) = true := by simp; omega
   have hRp : R = p1 := by rw [← HR.out, HRe.out]
   subst hRp
   clear he HRe
   go_wp2_with fail
   refine (C6.out _).mono ?_
   rintro e w' ⟨rfl, n6, rfl⟩
   go_wp2
   go_ret
   exact ⟨rfl, n1 + n2 + n3 + n4 + n6, by first | rfl | simp⟩
theorem xnumberEnd_b (s : ByteArray) (k : Nat) (w : World) (hs : s.size ≤ 140737488355328) (hk : k ≤ ln s) (h48 : hd0 ((us s).drop k) = 48) (h49 : hd0 ((us s).drop (k + 1)) ≠ 120 ∧ hd0 ((us s).drop (k + 1)) ≠ 88) :
  Cp 107 #[.string s, .int .i64 k] w fun e w' => e = .returned (.int .i64 ((k + numP ((us s).drop k) : Nat) : Int)) ∧ ∃ n, w' = w.drewN n := by
 have hs63 : s.size ≤ maxLen := by unfold maxLen; omega
 have hln := ln_le s
 have hll : (ln s : Int) ≤ 70368744177664 := by omega
 have hkl : (k : Int) ≤ 70368744177664 := by omega
 have CU : ∀ p W, Cp 36 #[.string s, .int .i64 ((p : Nat) : Int)] W fun e w' => e = .returned (.int .u16 ((hd0 ((us s).drop p) : Nat) : Int)) ∧ ∃ n, w' = W.drewN n := fun p W => xunit_any s p W hs63
 have CU1 : ∀ p W, Cp 36 #[.string s, .int .i64 (((p : Nat) : Int) + 1)] W fun e w' => e = .returned (.int .u16 ((hd0 ((us s).drop (p + 1)) : Nat) : Int)) ∧ ∃ n, w' = W.drewN n := fun p W => xunit_any s (p + 1) W hs63
 obtain ⟨c, hc⟩ : ∃ c, hd0 ((us s).drop k) = c := ⟨_, rfl⟩
 obtain ⟨d, hd⟩ : ∃ d, hd0 ((us s).drop (k + 1)) = d := ⟨_, rfl⟩
 have C1 := CU1 k
 have C2 := CU k
 rw [hd] at C1
 rw [hc] at C2
 have hx : hxA ((us s).drop k) = false := by
  rw [hxA_hd]
  simp [h48, h49]
 rw [hc] at h48
 rw [hd] at h49
 have g1 : ((d : Int) == 120) = false := by rw [beq_eq_false_iff_ne]; omega
 have g2 : ((d : Int) == 88) = false := by rw [beq_eq_false_iff_ne]; omega
 clear h49
 obtain ⟨R, hR⟩ : ∃ R, k + numP ((us s).drop k) = R := ⟨_, rfl⟩
 rw [hR]
 have HR := Lib.hid hR
 have HX := Lib.hid hx
 have HS := Lib.hid hs
 have HLL := Lib.hid hll
 have HKL : Hid (k ≤ (us s).length) := Lib.hid (by rw [us_length]; exact hk)
 obtain ⟨p1, hp1⟩ : ∃ p1, k + (((us s).drop k).takeWhile dg10).length = p1 := ⟨_, rfl⟩
 have C3 := fun W => xdec_end s k W hs hk
 rw [hp1] at C3
 obtain ⟨hb1, hnd, hdt⟩ := num_dot HKL.out hp1
 have C4 := CU p1
 obtain ⟨c1, hc1⟩ : ∃ c1, hd0 ((us s).drop p1) = c1 := ⟨_, rfl⟩
 rw [hc1] at C4 hnd hdt
 have hp1l : (p1 : Int) ≤ 70368744177664 := by have := hb1; rw [us_length] at this; omega
 have C3 := Lib.hid C3
 have C4 := Lib.hid C4
 have C1 := Lib.hid C1
 have C2 := Lib.hid C2
 have CU := Lib.hid CU
 have CU1 := Lib.hid CU1
 have HB1 := Lib.hid hb1
 have HND := Lib.hid hnd
 have HDT := Lib.hid hdt
 subst h48
 clear hs hs63 hln hll hx hc hd hk hR hp1 hb1 hnd hdt hc1
 go_enter Tryz.func107, Tryz.ntmps107
 go_wp2_with fail
 refine (C1.out _).mono ?_
 rintro e w' ⟨rfl, n1, rfl⟩
 go_wp2_with fail
 refine (C2.out _).mono ?_
 rintro e w' ⟨rfl, n2, rfl⟩
 go_wp2_with fail
 refine (C3.out _).mono ?_
 rintro e w' ⟨rfl, n3, rfl⟩
 go_wp2_with fail
 refine (C4.out _).mono ?_
 rintro e w' ⟨rfl, n4, rfl⟩
 by_cases h46 : c1 = 46
 ·have HD := HDT.out h46
  have C5 := Lib.hid (show ∀ W, Cp 195 #[.string s, .int .i64 ((p1 : Int) + 1), .func (.func 70) #[] #[]] W fun e w' => e = .returned (.int .i64 ((p1 + 1 + (((us s).drop (p1 + 1)).takeWhile dg10).length : Nat) : Int)) ∧ ∃ n, w' = W.drewN n from fun W => xdec_end s (p1 + 1) W HS.out (by have := HD.1; rw [us_length] at this; exact this))
  obtain ⟨p2, hp2d⟩ : ∃ p2, p1 + 1 + (((us s).drop (p1 + 1)).takeWhile dg10).length = p2 := ⟨_, rfl⟩
  obtain ⟨_, hp2, hb2⟩ := HD
  rw [hp2d] at C5 hp2 hb2
  have HP2 := Lib.hid hp2
  have HB2 := Lib.hid hb2
  subst h46
  clear hp2d hp2 hb2
  go_wp2_with fail
  refine (C5.out _).mono ?_
  rintro e w' ⟨rfl, n5, rfl⟩
  have hp2 := HP2.out
  have hb2 := HB2.out
  have hpl : (p2 : Int) ≤ 70368744177664 := by have := HLL.out; have := hb2; rw [us_length] at this; omega
  obtain ⟨c2, hc2⟩ : ∃ c2, hd0 ((us s).drop p2) = c2 := ⟨_, rfl⟩
  have C6 := CU.out p2
  rw [hc2] at C6
  have C6 := Lib.hid C6
  obtain ⟨q1, q2⟩ := num_exp HKL.out HX.out hp2 hb2
  rw [hc2] at q1 q2
  obtain ⟨c3, hc3⟩ : ∃ c3, hd0 ((us s).drop (p2 + 1)) = c3 := ⟨_, rfl⟩
  have C7 := CU1.out p2
  rw [hc3] at C7 q2
  have C7 := Lib.hid C7
  have Q1 := Lib.hid q1
  have Q2 := Lib.hid q2
  clear q1 q2 hc2 hc3 hp2 hb2
  by_cases he : c2 = 101 ∨ c2 = 69
  ·have Q3 := Lib.hid (Q2.out he)
   rcases he with rfl | rfl
   all_goals
    go_wp2_with fail
    refine (C6.out _).mono ?_
    rintro e w' ⟨rfl, n6, rfl⟩
    go_wp2_with fail
    refine (C7.out _).mono ?_
    rintro e w' ⟨rfl, n7, rfl⟩
    by_cases hsg : c3 = 43 ∨ c3 = 45
    ·obtain ⟨hb4, hRe⟩ := Q3.out.2.1 hsg
     have C8 := Lib.hid (show ∀ W, Cp 195 #[.string s, .int .i64 ((p2 : Int) + 1 + 1), .func (.func 70) #[] #[]] W fun e w' => e = .returned (.int .i64 (R : Nat)) ∧ ∃ n, w' = W.drewN n from fun W => by
      rw [← HR.out, hRe]; exact xdec_end s (p2 + 2) W HS.out (by rw [us_length] at hb4; omega))
     clear hb4 hRe
     rcases hsg with rfl | rfl
     all_goals
      go_wp2_with fail
      with_reducible refine (C8.out _).mono ?_
      rintro e w' ⟨rfl, n8, rfl⟩
      go_wp2
      go_ret
      exact ⟨rfl, n1 + n2 + n3 + n4 + n5 + n6 + n7 + n8, by first | rfl | simp⟩
    ·have hRe := Q3.out.2.2 (by omega)
     have hb3 := Q3.out.1
     have C8 := Lib.hid (show ∀ W, Cp 195 #[.string s, .int .i64 ((p2 : Int) + 1), .func (.func 70) #[] #[]] W fun e w' => e = .returned (.int .i64 (R : Nat)) ∧ ∃ n, w' = W.drewN n from fun W => by
      rw [← HR.out, hRe]; exact xdec_end s (p2 + 1) W HS.out (by rw [us_length] at hb3; omega))
     have f1 : ((c3 : Int) == 43) = false := by rw [beq_eq_false_iff_ne]; omega
     have f2 : ((c3 : Int) == 45) = false := by rw [beq_eq_false_iff_ne]; omega
     clear hb3 hRe hsg
     go_wp2_with fail
     with_reducible refine (C8.out _).mono ?_
     rintro e w' ⟨rfl, n8, rfl⟩
     go_wp2
     go_ret
     exact ⟨rfl, n1 + n2 + n3 + n4 + n5 + n6 + n7 + n8, by first | rfl | simp⟩
  ·have HRe := Lib.hid (Q1.out (by omega))
   have f1 : ((c2 : Int) != 101) = true := by simp; omega
   have f2 : ((c2 : Int) != 69) = true := by simp; omega
   have hRp : R = p2 := by rw [← HR.out, HRe.out]
   subst hRp
   clear he HRe
   go_wp2_with fail
   refine (C6.out _).mono ?_
   rintro e w' ⟨rfl, n6, rfl⟩
   go_wp2
   go_ret
   exact ⟨rfl, n1 + n2 + n3 + n4 + n5 + n6, by first | rfl | simp⟩
 ·have hp2 := HND.out h46
  have hb2 := HB1.out
  have g4 : ((c1 : Int) == 46) = false := by rw [beq_eq_false_iff_ne]; omega
  clear h46
  have hpl : (p1 : Int) ≤ 70368744177664 := by have := HLL.out; have := hb2; rw [us_length] at this; omega
  obtain ⟨c2, hc2⟩ : ∃ c2, hd0 ((us s).drop p1) = c2 := ⟨_, rfl⟩
  have C6 := CU.out p1
  rw [hc2] at C6
  have C6 := Lib.hid C6
  obtain ⟨q1, q2⟩ := num_exp HKL.out HX.out hp2 hb2
  rw [hc2] at q1 q2
  obtain ⟨c3, hc3⟩ : ∃ c3, hd0 ((us s).drop (p1 + 1)) = c3 := ⟨_, rfl⟩
  have C7 := CU1.out p1
  rw [hc3] at C7 q2
  have C7 := Lib.hid C7
  have Q1 := Lib.hid q1
  have Q2 := Lib.hid q2
  clear q1 q2 hc2 hc3 hp2 hb2
  by_cases he : c2 = 101 ∨ c2 = 69
  ·have Q3 := Lib.hid (Q2.out he)
   rcases he with rfl | rfl
   all_goals
    go_wp2_with fail
    refine (C6.out _).mono ?_
    rintro e w' ⟨rfl, n6, rfl⟩
    go_wp2_with fail
    refine (C7.out _).mono ?_
    rintro e w' ⟨rfl, n7, rfl⟩
    by_cases hsg : c3 = 43 ∨ c3 = 45
    ·obtain ⟨hb4, hRe⟩ := Q3.out.2.1 hsg
     have C8 := Lib.hid (show ∀ W, Cp 195 #[.string s, .int .i64 ((p1 : Int) + 1 + 1), .func (.func 70) #[] #[]] W fun e w' => e = .returned (.int .i64 (R : Nat)) ∧ ∃ n, w' = W.drewN n from fun W => by
      rw [← HR.out, hRe]; exact xdec_end s (p1 + 2) W HS.out (by rw [us_length] at hb4; omega))
     clear hb4 hRe
     rcases hsg with rfl | rfl
     all_goals
      go_wp2_with fail
      with_reducible refine (C8.out _).mono ?_
      rintro e w' ⟨rfl, n8, rfl⟩
      go_wp2
      go_ret
      exact ⟨rfl, n1 + n2 + n3 + n4 + n6 + n7 + n8, by first | rfl | simp⟩
    ·have hRe := Q3.out.2.2 (by omega)
     have hb3 := Q3.out.1
     have C8 := Lib.hid (show ∀ W, Cp 195 #[.string s, .int .i64 ((p1 : Int) + 1), .func (.func 70) #[] #[]] W fun e w' => e = .returned (.int .i64 (R : Nat)) ∧ ∃ n, w' = W.drewN n from fun W => by
      rw [← HR.out, hRe]; exact xdec_end s (p1 + 1) W HS.out (by rw [us_length] at hb3; omega))
     have f1 : ((c3 : Int) == 43) = false := by rw [beq_eq_false_iff_ne]; omega
     have f2 : ((c3 : Int) == 45) = false := by rw [beq_eq_false_iff_ne]; omega
     clear hb3 hRe hsg
     go_wp2_with fail
     with_reducible refine (C8.out _).mono ?_
     rintro e w' ⟨rfl, n8, rfl⟩
     go_wp2
     go_ret
     exact ⟨rfl, n1 + n2 + n3 + n4 + n6 + n7 + n8, by first | rfl | simp⟩
  ·have HRe := Lib.hid (Q1.out (by omega))
   have f1 : ((c2 : Int) != 101) = true := by simp; omega
   have f2 : ((c2 : Int) != 69) = true := by simp; omega
   have hRp : R = p1 := by rw [← HR.out, HRe.out]
   subst hRp
   clear he HRe
   go_wp2_with fail
   refine (C6.out _).mono ?_
   rintro e w' ⟨rfl, n6, rfl⟩
   go_wp2
   go_ret
   exact ⟨rfl, n1 + n2 + n3 + n4 + n6, by first | rfl | simp⟩
theorem xnumberEnd_any (s : ByteArray) (k : Nat) (w : World) (hs : s.size ≤ 140737488355328) (hk : k ≤ ln s) :
  Cp 107 #[.string s, .int .i64 k] w fun e w' => e = .returned (.int .i64 ((k + numP ((us s).drop k) : Nat) : Int)) ∧ ∃ n, w' = w.drewN n := by
 cases hx : hxA ((us s).drop k)
 ·by_cases h48 : hd0 ((us s).drop k) = 48
  ·have h49 : hd0 ((us s).drop (k + 1)) ≠ 120 ∧ hd0 ((us s).drop (k + 1)) ≠ 88 := by
    rw [hxA_hd, h48] at hx
    simpa using hx
   exact xnumberEnd_b s k w hs hk h48 h49
  ·exact xnumberEnd_a s k w hs hk h48
 ·exact xnumberEnd_hex s k w hs hk hx

end
section
open Go.RowKit
theorem xnumber_any (s : ByteArray) (k : Nat) (w : World) (hs : s.size ≤ 140737488355328) (hk : k ≤ ln s) :
  Cp 71 #[.string s, .int .i64 k] w fun e w' => e = TokE (nmV k ((us s).drop k)) ∧ Below w.heap.size w w' := by
 have hs63 : s.size ≤ maxLen := by unfold maxLen; omega
 have hln := ln_le s
 obtain ⟨l, hl⟩ : ∃ l, (us s).drop k = l := ⟨_, rfl⟩
 obtain ⟨n, hn⟩ : ∃ n, numP l = n := ⟨_, rfl⟩
 have hkn : k + n ≤ ln s := by
  have h1 := numP_le l
  have h2 := congrArg List.length hl
  rw [List.length_drop, us_length] at h2
  omega
 have C1 := fun W => xnumberEnd_any s k W hs hk
 rw [hl, hn] at C1
 have C1 := Lib.hid C1
 obtain ⟨X, hX⟩ : ∃ X, slS s (k : Int) ((k + n : Nat) : Int) = X := ⟨_, rfl⟩
 have hu : us X = l.take n := by
  have h := us_slS s k (k + n) hkn
  rw [hX, hl, Nat.add_sub_cancel_left] at h
  exact h
 have hXs : X.size ≤ 140737488355328 := by
  have h2 := slS_bL s k n hkn
  rw [hX] at h2
  rw [h2]
  show (bL _).toArray.size ≤ _
  rw [List.size_toArray, bL_length, List.length_take]
  omega
 have C2 := fun W => slice_any s (k : Int) ((k + n : Nat) : Int) W hs63
 rw [hX] at C2
 have C2 := Lib.hid C2
 have C3 := fun W => tLiteral_any X W hXs
 have hna := numP_asc l
 rw [hn] at hna
 rw [hu, nrw_low hna] at C3
 have C3 := Lib.hid C3
 obtain ⟨d, hd⟩ : ∃ d, hd0 ((us s).drop (k + n)) = d := ⟨_, rfl⟩
 have C4 := fun W => xunit_any s (k + n) W hs63
 rw [hd] at C4
 have C4 := Lib.hid C4
 have C5 := Lib.hid (fun W => part_n d W)
 have hO : numO l n = (litB (l.take n) && !(ptN d || d == 92)) := by
  unfold numO
  rw [← hd, ← hl, List.drop_drop]
 rw [hl]
 have hV : nmV k l = if (litB (l.take n) && !(ptN d || d == 92)) = true then some (tkV 5 ⟨#[]⟩ (litV (l.take n)) false false 0 (k + n)) else none := by
  unfold nmV
  rw [hn, hO]
 rw [hV]
 have T0 := Lib.hid (TB.start w)
 obtain ⟨F, hF⟩ : ∃ F, litV (l.take n) = F := ⟨_, rfl⟩
 obtain ⟨m, hm⟩ : ∃ m, k + n = m := ⟨_, rfl⟩
 rw [hF] at C3 ⊢
 rw [hm] at C1 C2 C4 ⊢
 clear hln hX hu hXs hna hd hO hV hl hn hF hs63 hs hkn hm
 cases hb : litB (l.take n)
 ·rw [hb] at C3
  rw [Bool.false_and, if_neg (by simp)]
  clear hb
  go_enter Tryz.func71, Tryz.ntmps71
  go_wp2_with fail
  refine (C1.out _).mono ?_
  rintro e w' ⟨rfl, n1, rfl⟩
  go_wp2_with fail
  refine (C2.out _).mono ?_
  rintro e w' ⟨rfl, rfl⟩
  go_wp2_with fail
  refine (C3.out _).mono ?_
  rintro e w1 ⟨rfl, b1⟩
  have T1 := (T0.out.draw n1).step b1
  go_wp2_with fail
  refine (C4.out _).mono ?_
  rintro e w' ⟨rfl, n4, rfl⟩
  have T2 := T1.draw n4
  have HG := Lib.hid T2.bl
  have HB := Lib.hid T2.bw
  clear T1 T2 b1
  go_wp2_with (refine tkS rfl rfl w.heap.size 0 ⟨#[]⟩ 0 false false 0 0 rfl rfl HG.out ?_)
  refine tkR rfl rfl HG.out rfl rfl ⟨?_, below_setRowK HB.out (Nat.le_refl _) _⟩
  rfl
 ·rw [hb] at C3
  rw [Bool.true_and]
  clear hb
  cases hp : ptN d
  ·rw [hp] at C5
   clear hp
   by_cases h92 : d = 92
   ·subst h92
    rw [if_neg (by simp)]
    go_enter Tryz.func71, Tryz.ntmps71
    go_wp2_with fail
    refine (C1.out _).mono ?_
    rintro e w' ⟨rfl, n1, rfl⟩
    go_wp2_with fail
    refine (C2.out _).mono ?_
    rintro e w' ⟨rfl, rfl⟩
    go_wp2_with fail
    refine (C3.out _).mono ?_
    rintro e w1 ⟨rfl, b1⟩
    have T1 := (T0.out.draw n1).step b1
    go_wp2_with fail
    refine (C4.out _).mono ?_
    rintro e w' ⟨rfl, n4, rfl⟩
    have T2 := T1.draw n4
    go_wp2_with fail
    refine (C5.out _).mono ?_
    rintro e w' ⟨rfl, rfl⟩
    have HG := Lib.hid T2.bl
    have HB := Lib.hid T2.bw
    clear T1 T2 b1
    go_wp2_with (refine tkS rfl rfl w.heap.size 0 ⟨#[]⟩ 0 false false 0 0 rfl rfl HG.out ?_)
    refine tkR rfl rfl HG.out rfl rfl ⟨?_, below_setRowK HB.out (Nat.le_refl _) _⟩
    rfl
   ·have g1 : ¬ ((d : Int) = 92) := by omega
    rw [if_pos (by simpa using h92)]
    clear h92
    go_enter Tryz.func71, Tryz.ntmps71
    go_wp2_with fail
    refine (C1.out _).mono ?_
    rintro e w' ⟨rfl, n1, rfl⟩
    go_wp2_with fail
    refine (C2.out _).mono ?_
    rintro e w' ⟨rfl, rfl⟩
    go_wp2_with fail
    refine (C3.out _).mono ?_
    rintro e w1 ⟨rfl, b1⟩
    have T1 := (T0.out.draw n1).step b1
    go_wp2_with fail
    refine (C4.out _).mono ?_
    rintro e w' ⟨rfl, n4, rfl⟩
    have T2 := T1.draw n4
    go_wp2_with fail
    refine (C5.out _).mono ?_
    rintro e w' ⟨rfl, rfl⟩
    have HG := Lib.hid T2.bl
    have HB := Lib.hid T2.bw
    clear T1 T2 b1
    go_wp2_with (refine tkS rfl rfl w.heap.size 5 ⟨#[]⟩ F false false 0 (m : Int) rfl rfl HG.out ?_)
    refine tkR rfl rfl HG.out rfl rfl ⟨?_, below_setRowK HB.out (Nat.le_refl _) _⟩
    rfl
  ·rw [hp] at C5
   clear hp
   rw [if_neg (by simp)]
   go_enter Tryz.func71, Tryz.ntmps71
   go_wp2_with fail
   refine (C1.out _).mono ?_
   rintro e w' ⟨rfl, n1, rfl⟩
   go_wp2_with fail
   refine (C2.out _).mono ?_
   rintro e w' ⟨rfl, rfl⟩
   go_wp2_with fail
   refine (C3.out _).mono ?_
   rintro e w1 ⟨rfl, b1⟩
   have T1 := (T0.out.draw n1).step b1
   go_wp2_with fail
   refine (C4.out _).mono ?_
   rintro e w' ⟨rfl, n4, rfl⟩
   have T2 := T1.draw n4
   go_wp2_with fail
   refine (C5.out _).mono ?_
   rintro e w' ⟨rfl, rfl⟩
   have HG := Lib.hid T2.bl
   have HB := Lib.hid T2.bw
   clear T1 T2 b1
   go_wp2_with (refine tkS rfl rfl w.heap.size 0 ⟨#[]⟩ 0 false false 0 0 rfl rfl HG.out ?_)
   refine tkR rfl rfl HG.out rfl rfl ⟨?_, below_setRowK HB.out (Nat.le_refl _) _⟩
   rfl

end
section
open Go.RowKit
def tokO (k : Nat) (o : Option (Nat × List Nat × Nat × Bool × Nat)) : Option Value := o.map fun p => tkV p.1 ⟨(bL p.2.1).toArray⟩ p.2.2.1 p.2.2.2.1 false 0 (k + p.2.2.2.2)
theorem start_n (u : Nat) (w : World) : Cq 67 #[.int .u16 u] (.bool (stN u)) w := start_any u w
theorem xread_name (s : ByteArray) (k c : Nat) (w : World) (o : Option (Nat × List Nat × Nat × Bool × Nat)) (_hkl : (k : Int) ≤ 70368744177664) (h : (stN c || c == 92) = true)
  (C1 : Hid (∀ W, Cp 66 #[.string s, .int .i64 k] W fun e w' => e = .returned (.tuple #[.int .u16 (c : Nat), .bool true]) ∧ ∃ n, w' = W.drewN n))
  (CC : Hid (∀ W, Cp 68 #[.string s, .int .i64 k] W fun e w' => e = TokE (tokO k o) ∧ Below W.heap.size W w')) :
  Cp 37 #[.string s, .int .i64 k] w fun e w' => e = TokE (tokO k o) ∧ Below w.heap.size w w' := by
 have CS := Lib.hid (fun W => start_n c W)
 have CD := Lib.hid (fun W => xdecimal_any c W)
 have T0 := Lib.hid (TB.start w)
 cases hst : stN c
 ·have h92 : c = 92 := by rw [hst] at h; simpa using h
  rw [hst] at CS
  subst h92
  clear h hst CD
  cases o with
  | none =>
   have CC := Lib.hid (show ∀ W, Cp 68 #[.string s, .int .i64 k] W fun e w' => e = .returned (.tuple #[.agg #[.int .i64 0, .string ⟨#[]⟩, .float .f64 0, .bool false, .bool false, .int .i64 0, .int .i64 0], .bool false]) ∧ Below W.heap.size W w' from CC.out)
   go_enter Tryz.func37, Tryz.ntmps37
   go_wp2_with fail
   refine (C1.out _).mono ?_
   rintro e w' ⟨rfl, n1, rfl⟩
   go_wp2_with fail
   refine (CS.out _).mono ?_
   rintro e w' ⟨rfl, rfl⟩
   go_wp2_with fail
   refine (CC.out _).mono ?_
   rintro e w1 ⟨rfl, b1⟩
   have T1 := (T0.out.draw (n1)).step b1
   have HG := Lib.hid T1.bl
   have HB := Lib.hid T1.bw
   clear T1 b1
   go_wp2_with (refine tkS rfl rfl w.heap.size 0 ⟨#[]⟩ 0 false false 0 0 rfl rfl HG.out ?_)
   refine tkR rfl rfl HG.out rfl rfl ⟨?_, below_setRowK HB.out (Nat.le_refl _) _⟩
   rfl
  | some p =>
   have CC := Lib.hid (show ∀ W, Cp 68 #[.string s, .int .i64 k] W fun e w' => e = .returned (.tuple #[.agg #[.int .i64 ((p.1 : Nat) : Int), .string ⟨(bL p.2.1).toArray⟩, .float .f64 p.2.2.1, .bool p.2.2.2.1, .bool false, .int .i64 0, .int .i64 ((k + p.2.2.2.2 : Nat) : Int)], .bool true]) ∧ Below W.heap.size W w' from CC.out)
   have HE : Hid (TokE (tokO k (some p)) = .returned (.tuple #[.agg #[.int .i64 ((p.1 : Nat) : Int), .string ⟨(bL p.2.1).toArray⟩, .float .f64 p.2.2.1, .bool p.2.2.2.1, .bool false, .int .i64 0, .int .i64 ((k + p.2.2.2.2 : Nat) : Int)], .bool true])) := Lib.hid rfl
   obtain ⟨kd, hkd⟩ : ∃ kd : Int, ((p.1 : Nat) : Int) = kd := ⟨_, rfl⟩
   obtain ⟨tx, htx⟩ : ∃ tx : ByteArray, (⟨(bL p.2.1).toArray⟩ : ByteArray) = tx := ⟨_, rfl⟩
   obtain ⟨xx, hxx⟩ : ∃ xx, p.2.2.1 = xx := ⟨_, rfl⟩
   obtain ⟨es, hes⟩ : ∃ es, p.2.2.2.1 = es := ⟨_, rfl⟩
   obtain ⟨fi, hfi⟩ : ∃ fi : Int, ((k + p.2.2.2.2 : Nat) : Int) = fi := ⟨_, rfl⟩
   rw [hkd, htx, hxx, hes, hfi] at CC HE
   clear hkd htx hxx hes hfi
   go_enter Tryz.func37, Tryz.ntmps37
   go_wp2_with fail
   refine (C1.out _).mono ?_
   rintro e w' ⟨rfl, n1, rfl⟩
   go_wp2_with fail
   refine (CS.out _).mono ?_
   rintro e w' ⟨rfl, rfl⟩
   go_wp2_with fail
   refine (CC.out _).mono ?_
   rintro e w1 ⟨rfl, b1⟩
   have T1 := (T0.out.draw (n1)).step b1
   have HG := Lib.hid T1.bl
   have HB := Lib.hid T1.bw
   clear T1 b1
   go_wp2_with (refine tkS rfl rfl w.heap.size (kd : Int) tx xx es false 0 fi rfl rfl HG.out ?_)
   refine tkR rfl rfl HG.out rfl rfl ⟨?_, below_setRowK HB.out (Nat.le_refl _) _⟩
   exact HE.out.symm
 ·rw [hst] at CS
  clear h hst CD
  cases o with
  | none =>
   have CC := Lib.hid (show ∀ W, Cp 68 #[.string s, .int .i64 k] W fun e w' => e = .returned (.tuple #[.agg #[.int .i64 0, .string ⟨#[]⟩, .float .f64 0, .bool false, .bool false, .int .i64 0, .int .i64 0], .bool false]) ∧ Below W.heap.size W w' from CC.out)
   go_enter Tryz.func37, Tryz.ntmps37
   go_wp2_with fail
   refine (C1.out _).mono ?_
   rintro e w' ⟨rfl, n1, rfl⟩
   go_wp2_with fail
   refine (CS.out _).mono ?_
   rintro e w' ⟨rfl, rfl⟩
   go_wp2_with fail
   refine (CC.out _).mono ?_
   rintro e w1 ⟨rfl, b1⟩
   have T1 := (T0.out.draw (n1)).step b1
   have HG := Lib.hid T1.bl
   have HB := Lib.hid T1.bw
   clear T1 b1
   go_wp2_with (refine tkS rfl rfl w.heap.size 0 ⟨#[]⟩ 0 false false 0 0 rfl rfl HG.out ?_)
   refine tkR rfl rfl HG.out rfl rfl ⟨?_, below_setRowK HB.out (Nat.le_refl _) _⟩
   rfl
  | some p =>
   have CC := Lib.hid (show ∀ W, Cp 68 #[.string s, .int .i64 k] W fun e w' => e = .returned (.tuple #[.agg #[.int .i64 ((p.1 : Nat) : Int), .string ⟨(bL p.2.1).toArray⟩, .float .f64 p.2.2.1, .bool p.2.2.2.1, .bool false, .int .i64 0, .int .i64 ((k + p.2.2.2.2 : Nat) : Int)], .bool true]) ∧ Below W.heap.size W w' from CC.out)
   have HE : Hid (TokE (tokO k (some p)) = .returned (.tuple #[.agg #[.int .i64 ((p.1 : Nat) : Int), .string ⟨(bL p.2.1).toArray⟩, .float .f64 p.2.2.1, .bool p.2.2.2.1, .bool false, .int .i64 0, .int .i64 ((k + p.2.2.2.2 : Nat) : Int)], .bool true])) := Lib.hid rfl
   obtain ⟨kd, hkd⟩ : ∃ kd : Int, ((p.1 : Nat) : Int) = kd := ⟨_, rfl⟩
   obtain ⟨tx, htx⟩ : ∃ tx : ByteArray, (⟨(bL p.2.1).toArray⟩ : ByteArray) = tx := ⟨_, rfl⟩
   obtain ⟨xx, hxx⟩ : ∃ xx, p.2.2.1 = xx := ⟨_, rfl⟩
   obtain ⟨es, hes⟩ : ∃ es, p.2.2.2.1 = es := ⟨_, rfl⟩
   obtain ⟨fi, hfi⟩ : ∃ fi : Int, ((k + p.2.2.2.2 : Nat) : Int) = fi := ⟨_, rfl⟩
   rw [hkd, htx, hxx, hes, hfi] at CC HE
   clear hkd htx hxx hes hfi
   go_enter Tryz.func37, Tryz.ntmps37
   go_wp2_with fail
   refine (C1.out _).mono ?_
   rintro e w' ⟨rfl, n1, rfl⟩
   go_wp2_with fail
   refine (CS.out _).mono ?_
   rintro e w' ⟨rfl, rfl⟩
   go_wp2_with fail
   refine (CC.out _).mono ?_
   rintro e w1 ⟨rfl, b1⟩
   have T1 := (T0.out.draw (n1)).step b1
   have HG := Lib.hid T1.bl
   have HB := Lib.hid T1.bw
   clear T1 b1
   go_wp2_with (refine tkS rfl rfl w.heap.size (kd : Int) tx xx es false 0 fi rfl rfl HG.out ?_)
   refine tkR rfl rfl HG.out rfl rfl ⟨?_, below_setRowK HB.out (Nat.le_refl _) _⟩
   exact HE.out.symm
theorem xread_quoted (s : ByteArray) (k c : Nat) (w : World) (o : Option (Nat × List Nat × Nat × Bool × Nat)) (_hkl : (k : Int) ≤ 70368744177664) (h : c = 34 ∨ c = 39)
  (C1 : Hid (∀ W, Cp 66 #[.string s, .int .i64 k] W fun e w' => e = .returned (.tuple #[.int .u16 (c : Nat), .bool true]) ∧ ∃ n, w' = W.drewN n))
  (CC : Hid (∀ W, Cp 69 #[.string s, .int .i64 k] W fun e w' => e = TokE (tokO k o) ∧ Below W.heap.size W w')) :
  Cp 37 #[.string s, .int .i64 k] w fun e w' => e = TokE (tokO k o) ∧ Below w.heap.size w w' := by
 have CS := Lib.hid (fun W => start_n c W)
 have CD := Lib.hid (fun W => xdecimal_any c W)
 have T0 := Lib.hid (TB.start w)
 rcases h with rfl | rfl
 all_goals
  have CS := Lib.hid (show ∀ W, Cp 67 #[.int .u16 _] W fun e w' => e = .returned (.bool false) ∧ W = w' from CS.out)
  clear CD
  cases o with
  | none =>
   have CC := Lib.hid (show ∀ W, Cp 69 #[.string s, .int .i64 k] W fun e w' => e = .returned (.tuple #[.agg #[.int .i64 0, .string ⟨#[]⟩, .float .f64 0, .bool false, .bool false, .int .i64 0, .int .i64 0], .bool false]) ∧ Below W.heap.size W w' from CC.out)
   go_enter Tryz.func37, Tryz.ntmps37
   go_wp2_with fail
   refine (C1.out _).mono ?_
   rintro e w' ⟨rfl, n1, rfl⟩
   go_wp2_with fail
   refine (CS.out _).mono ?_
   rintro e w' ⟨rfl, rfl⟩
   go_wp2_with fail
   refine (CC.out _).mono ?_
   rintro e w1 ⟨rfl, b1⟩
   have T1 := (T0.out.draw (n1)).step b1
   have HG := Lib.hid T1.bl
   have HB := Lib.hid T1.bw
   clear T1 b1
   go_wp2_with (refine tkS rfl rfl w.heap.size 0 ⟨#[]⟩ 0 false false 0 0 rfl rfl HG.out ?_)
   refine tkR rfl rfl HG.out rfl rfl ⟨?_, below_setRowK HB.out (Nat.le_refl _) _⟩
   rfl
  | some p =>
   have CC := Lib.hid (show ∀ W, Cp 69 #[.string s, .int .i64 k] W fun e w' => e = .returned (.tuple #[.agg #[.int .i64 ((p.1 : Nat) : Int), .string ⟨(bL p.2.1).toArray⟩, .float .f64 p.2.2.1, .bool p.2.2.2.1, .bool false, .int .i64 0, .int .i64 ((k + p.2.2.2.2 : Nat) : Int)], .bool true]) ∧ Below W.heap.size W w' from CC.out)
   have HE : Hid (TokE (tokO k (some p)) = .returned (.tuple #[.agg #[.int .i64 ((p.1 : Nat) : Int), .string ⟨(bL p.2.1).toArray⟩, .float .f64 p.2.2.1, .bool p.2.2.2.1, .bool false, .int .i64 0, .int .i64 ((k + p.2.2.2.2 : Nat) : Int)], .bool true])) := Lib.hid rfl
   obtain ⟨kd, hkd⟩ : ∃ kd : Int, ((p.1 : Nat) : Int) = kd := ⟨_, rfl⟩
   obtain ⟨tx, htx⟩ : ∃ tx : ByteArray, (⟨(bL p.2.1).toArray⟩ : ByteArray) = tx := ⟨_, rfl⟩
   obtain ⟨xx, hxx⟩ : ∃ xx, p.2.2.1 = xx := ⟨_, rfl⟩
   obtain ⟨es, hes⟩ : ∃ es, p.2.2.2.1 = es := ⟨_, rfl⟩
   obtain ⟨fi, hfi⟩ : ∃ fi : Int, ((k + p.2.2.2.2 : Nat) : Int) = fi := ⟨_, rfl⟩
   rw [hkd, htx, hxx, hes, hfi] at CC HE
   clear hkd htx hxx hes hfi
   go_enter Tryz.func37, Tryz.ntmps37
   go_wp2_with fail
   refine (C1.out _).mono ?_
   rintro e w' ⟨rfl, n1, rfl⟩
   go_wp2_with fail
   refine (CS.out _).mono ?_
   rintro e w' ⟨rfl, rfl⟩
   go_wp2_with fail
   refine (CC.out _).mono ?_
   rintro e w1 ⟨rfl, b1⟩
   have T1 := (T0.out.draw (n1)).step b1
   have HG := Lib.hid T1.bl
   have HB := Lib.hid T1.bw
   clear T1 b1
   go_wp2_with (refine tkS rfl rfl w.heap.size (kd : Int) tx xx es false 0 fi rfl rfl HG.out ?_)
   refine tkR rfl rfl HG.out rfl rfl ⟨?_, below_setRowK HB.out (Nat.le_refl _) _⟩
   exact HE.out.symm
theorem xread_number (s : ByteArray) (k c : Nat) (w : World) (o : Option (Nat × List Nat × Nat × Bool × Nat)) (hkl : (k : Int) ≤ 70368744177664) (hst : stN c = false) (h92 : c ≠ 92) (h34 : c ≠ 34) (h39 : c ≠ 39) (d : Nat) (CU : Hid (∀ W, Cp 36 #[.string s, .int .i64 ((k : Int) + 1)] W fun e w' => e = .returned (.int .u16 (d : Nat)) ∧ ∃ n, w' = W.drewN n)) (h : (dg10 c || (c == 46 && dg10 d)) = true)
  (C1 : Hid (∀ W, Cp 66 #[.string s, .int .i64 k] W fun e w' => e = .returned (.tuple #[.int .u16 (c : Nat), .bool true]) ∧ ∃ n, w' = W.drewN n))
  (CC : Hid (∀ W, Cp 71 #[.string s, .int .i64 k] W fun e w' => e = TokE (tokO k o) ∧ Below W.heap.size W w')) :
  Cp 37 #[.string s, .int .i64 k] w fun e w' => e = TokE (tokO k o) ∧ Below w.heap.size w w' := by
 have CS := Lib.hid (fun W => start_n c W)
 have CD := Lib.hid (fun W => xdecimal_any c W)
 have T0 := Lib.hid (TB.start w)
 rw [hst] at CS
 have g1 : ((c : Int) == 92) = false := by rw [beq_eq_false_iff_ne]; omega
 have g2 : ((c : Int) == 34) = false := by rw [beq_eq_false_iff_ne]; omega
 have g3 : ((c : Int) == 39) = false := by rw [beq_eq_false_iff_ne]; omega
 clear hst h92 h34 h39
 cases hd : dg10 c
 ·rw [hd] at CD h
  have h46 : c = 46 ∧ dg10 d = true := by simpa using h
  have CD2 := fun W => xdecimal_any d W
  rw [h46.2] at CD2
  have CD2 := Lib.hid CD2
  have h46 := h46.1
  subst h46
  clear h hd g1 g2 g3
  cases o with
  | none =>
   have CC := Lib.hid (show ∀ W, Cp 71 #[.string s, .int .i64 k] W fun e w' => e = .returned (.tuple #[.agg #[.int .i64 0, .string ⟨#[]⟩, .float .f64 0, .bool false, .bool false, .int .i64 0, .int .i64 0], .bool false]) ∧ Below W.heap.size W w' from CC.out)
   go_enter Tryz.func37, Tryz.ntmps37
   go_wp2_with fail
   refine (C1.out _).mono ?_
   rintro e w' ⟨rfl, n1, rfl⟩
   go_wp2_with fail
   refine (CS.out _).mono ?_
   rintro e w' ⟨rfl, rfl⟩
   go_wp2_with fail
   refine (CD.out _).mono ?_
   rintro e w' ⟨rfl, rfl⟩
   go_wp2_with fail
   refine (CU.out _).mono ?_
   rintro e w' ⟨rfl, n2, rfl⟩
   go_wp2_with fail
   refine (CD2.out _).mono ?_
   rintro e w' ⟨rfl, rfl⟩
   go_wp2_with fail
   refine (CC.out _).mono ?_
   rintro e w1 ⟨rfl, b1⟩
   have T1 := (T0.out.draw (n1 + n2)).step b1
   have HG := Lib.hid T1.bl
   have HB := Lib.hid T1.bw
   clear T1 b1
   go_wp2_with (refine tkS rfl rfl w.heap.size 0 ⟨#[]⟩ 0 false false 0 0 rfl rfl HG.out ?_)
   refine tkR rfl rfl HG.out rfl rfl ⟨?_, below_setRowK HB.out (Nat.le_refl _) _⟩
   rfl
  | some p =>
   have CC := Lib.hid (show ∀ W, Cp 71 #[.string s, .int .i64 k] W fun e w' => e = .returned (.tuple #[.agg #[.int .i64 ((p.1 : Nat) : Int), .string ⟨(bL p.2.1).toArray⟩, .float .f64 p.2.2.1, .bool p.2.2.2.1, .bool false, .int .i64 0, .int .i64 ((k + p.2.2.2.2 : Nat) : Int)], .bool true]) ∧ Below W.heap.size W w' from CC.out)
   have HE : Hid (TokE (tokO k (some p)) = .returned (.tuple #[.agg #[.int .i64 ((p.1 : Nat) : Int), .string ⟨(bL p.2.1).toArray⟩, .float .f64 p.2.2.1, .bool p.2.2.2.1, .bool false, .int .i64 0, .int .i64 ((k + p.2.2.2.2 : Nat) : Int)], .bool true])) := Lib.hid rfl
   obtain ⟨kd, hkd⟩ : ∃ kd : Int, ((p.1 : Nat) : Int) = kd := ⟨_, rfl⟩
   obtain ⟨tx, htx⟩ : ∃ tx : ByteArray, (⟨(bL p.2.1).toArray⟩ : ByteArray) = tx := ⟨_, rfl⟩
   obtain ⟨xx, hxx⟩ : ∃ xx, p.2.2.1 = xx := ⟨_, rfl⟩
   obtain ⟨es, hes⟩ : ∃ es, p.2.2.2.1 = es := ⟨_, rfl⟩
   obtain ⟨fi, hfi⟩ : ∃ fi : Int, ((k + p.2.2.2.2 : Nat) : Int) = fi := ⟨_, rfl⟩
   rw [hkd, htx, hxx, hes, hfi] at CC HE
   clear hkd htx hxx hes hfi
   go_enter Tryz.func37, Tryz.ntmps37
   go_wp2_with fail
   refine (C1.out _).mono ?_
   rintro e w' ⟨rfl, n1, rfl⟩
   go_wp2_with fail
   refine (CS.out _).mono ?_
   rintro e w' ⟨rfl, rfl⟩
   go_wp2_with fail
   refine (CD.out _).mono ?_
   rintro e w' ⟨rfl, rfl⟩
   go_wp2_with fail
   refine (CU.out _).mono ?_
   rintro e w' ⟨rfl, n2, rfl⟩
   go_wp2_with fail
   refine (CD2.out _).mono ?_
   rintro e w' ⟨rfl, rfl⟩
   go_wp2_with fail
   refine (CC.out _).mono ?_
   rintro e w1 ⟨rfl, b1⟩
   have T1 := (T0.out.draw (n1 + n2)).step b1
   have HG := Lib.hid T1.bl
   have HB := Lib.hid T1.bw
   clear T1 b1
   go_wp2_with (refine tkS rfl rfl w.heap.size (kd : Int) tx xx es false 0 fi rfl rfl HG.out ?_)
   refine tkR rfl rfl HG.out rfl rfl ⟨?_, below_setRowK HB.out (Nat.le_refl _) _⟩
   exact HE.out.symm
 ·rw [hd] at CD
  clear h hd CU
  cases o with
  | none =>
   have CC := Lib.hid (show ∀ W, Cp 71 #[.string s, .int .i64 k] W fun e w' => e = .returned (.tuple #[.agg #[.int .i64 0, .string ⟨#[]⟩, .float .f64 0, .bool false, .bool false, .int .i64 0, .int .i64 0], .bool false]) ∧ Below W.heap.size W w' from CC.out)
   go_enter Tryz.func37, Tryz.ntmps37
   go_wp2_with fail
   refine (C1.out _).mono ?_
   rintro e w' ⟨rfl, n1, rfl⟩
   go_wp2_with fail
   refine (CS.out _).mono ?_
   rintro e w' ⟨rfl, rfl⟩
   go_wp2_with fail
   refine (CD.out _).mono ?_
   rintro e w' ⟨rfl, rfl⟩
   go_wp2_with fail
   refine (CC.out _).mono ?_
   rintro e w1 ⟨rfl, b1⟩
   have T1 := (T0.out.draw (n1)).step b1
   have HG := Lib.hid T1.bl
   have HB := Lib.hid T1.bw
   clear T1 b1
   go_wp2_with (refine tkS rfl rfl w.heap.size 0 ⟨#[]⟩ 0 false false 0 0 rfl rfl HG.out ?_)
   refine tkR rfl rfl HG.out rfl rfl ⟨?_, below_setRowK HB.out (Nat.le_refl _) _⟩
   rfl
  | some p =>
   have CC := Lib.hid (show ∀ W, Cp 71 #[.string s, .int .i64 k] W fun e w' => e = .returned (.tuple #[.agg #[.int .i64 ((p.1 : Nat) : Int), .string ⟨(bL p.2.1).toArray⟩, .float .f64 p.2.2.1, .bool p.2.2.2.1, .bool false, .int .i64 0, .int .i64 ((k + p.2.2.2.2 : Nat) : Int)], .bool true]) ∧ Below W.heap.size W w' from CC.out)
   have HE : Hid (TokE (tokO k (some p)) = .returned (.tuple #[.agg #[.int .i64 ((p.1 : Nat) : Int), .string ⟨(bL p.2.1).toArray⟩, .float .f64 p.2.2.1, .bool p.2.2.2.1, .bool false, .int .i64 0, .int .i64 ((k + p.2.2.2.2 : Nat) : Int)], .bool true])) := Lib.hid rfl
   obtain ⟨kd, hkd⟩ : ∃ kd : Int, ((p.1 : Nat) : Int) = kd := ⟨_, rfl⟩
   obtain ⟨tx, htx⟩ : ∃ tx : ByteArray, (⟨(bL p.2.1).toArray⟩ : ByteArray) = tx := ⟨_, rfl⟩
   obtain ⟨xx, hxx⟩ : ∃ xx, p.2.2.1 = xx := ⟨_, rfl⟩
   obtain ⟨es, hes⟩ : ∃ es, p.2.2.2.1 = es := ⟨_, rfl⟩
   obtain ⟨fi, hfi⟩ : ∃ fi : Int, ((k + p.2.2.2.2 : Nat) : Int) = fi := ⟨_, rfl⟩
   rw [hkd, htx, hxx, hes, hfi] at CC HE
   clear hkd htx hxx hes hfi
   go_enter Tryz.func37, Tryz.ntmps37
   go_wp2_with fail
   refine (C1.out _).mono ?_
   rintro e w' ⟨rfl, n1, rfl⟩
   go_wp2_with fail
   refine (CS.out _).mono ?_
   rintro e w' ⟨rfl, rfl⟩
   go_wp2_with fail
   refine (CD.out _).mono ?_
   rintro e w' ⟨rfl, rfl⟩
   go_wp2_with fail
   refine (CC.out _).mono ?_
   rintro e w1 ⟨rfl, b1⟩
   have T1 := (T0.out.draw (n1)).step b1
   have HG := Lib.hid T1.bl
   have HB := Lib.hid T1.bw
   clear T1 b1
   go_wp2_with (refine tkS rfl rfl w.heap.size (kd : Int) tx xx es false 0 fi rfl rfl HG.out ?_)
   refine tkR rfl rfl HG.out rfl rfl ⟨?_, below_setRowK HB.out (Nat.le_refl _) _⟩
   exact HE.out.symm
theorem xread_mark (s : ByteArray) (k c : Nat) (w : World) (o : Option (Nat × List Nat × Nat × Bool × Nat)) (hkl : (k : Int) ≤ 70368744177664) (hst : stN c = false) (h92 : c ≠ 92) (h34 : c ≠ 34) (h39 : c ≠ 39) (d : Nat) (CU : Hid (∀ W, Cp 36 #[.string s, .int .i64 ((k : Int) + 1)] W fun e w' => e = .returned (.int .u16 (d : Nat)) ∧ ∃ n, w' = W.drewN n)) (h : (dg10 c || (c == 46 && dg10 d)) = false)
  (C1 : Hid (∀ W, Cp 66 #[.string s, .int .i64 k] W fun e w' => e = .returned (.tuple #[.int .u16 (c : Nat), .bool true]) ∧ ∃ n, w' = W.drewN n))
  (CC : Hid (∀ W, Cp 72 #[.string s, .int .i64 k] W fun e w' => e = TokE (tokO k o) ∧ Below W.heap.size W w')) :
  Cp 37 #[.string s, .int .i64 k] w fun e w' => e = TokE (tokO k o) ∧ Below w.heap.size w w' := by
 have CS := Lib.hid (fun W => start_n c W)
 have CD := Lib.hid (fun W => xdecimal_any c W)
 have T0 := Lib.hid (TB.start w)
 rw [hst] at CS
 have g1 : ((c : Int) == 92) = false := by rw [beq_eq_false_iff_ne]; omega
 have g2 : ((c : Int) == 34) = false := by rw [beq_eq_false_iff_ne]; omega
 have g3 : ((c : Int) == 39) = false := by rw [beq_eq_false_iff_ne]; omega
 clear hst h92 h34 h39
 have hd : dg10 c = false := by
  cases hd : dg10 c
  ·rfl
  ·rw [hd] at h; cases h
 rw [hd] at CD h
 by_cases h46 : c = 46
 ·have h2 : dg10 d = false := by
   rw [h46] at h
   simpa using h
  have CD2 := fun W => xdecimal_any d W
  rw [h2] at CD2
  have CD2 := Lib.hid CD2
  subst h46
  clear h hd g1 g2 g3 h2
  cases o with
  | none =>
   have CC := Lib.hid (show ∀ W, Cp 72 #[.string s, .int .i64 k] W fun e w' => e = .returned (.tuple #[.agg #[.int .i64 0, .string ⟨#[]⟩, .float .f64 0, .bool false, .bool false, .int .i64 0, .int .i64 0], .bool false]) ∧ Below W.heap.size W w' from CC.out)
   go_enter Tryz.func37, Tryz.ntmps37
   go_wp2_with fail
   refine (C1.out _).mono ?_
   rintro e w' ⟨rfl, n1, rfl⟩
   go_wp2_with fail
   refine (CS.out _).mono ?_
   rintro e w' ⟨rfl, rfl⟩
   go_wp2_with fail
   refine (CD.out _).mono ?_
   rintro e w' ⟨rfl, rfl⟩
   go_wp2_with fail
   refine (CU.out _).mono ?_
   rintro e w' ⟨rfl, n2, rfl⟩
   go_wp2_with fail
   refine (CD2.out _).mono ?_
   rintro e w' ⟨rfl, rfl⟩
   go_wp2_with fail
   refine (CC.out _).mono ?_
   rintro e w1 ⟨rfl, b1⟩
   have T1 := (T0.out.draw (n1 + n2)).step b1
   have HG := Lib.hid T1.bl
   have HB := Lib.hid T1.bw
   clear T1 b1
   go_wp2_with (refine tkS rfl rfl w.heap.size 0 ⟨#[]⟩ 0 false false 0 0 rfl rfl HG.out ?_)
   refine tkR rfl rfl HG.out rfl rfl ⟨?_, below_setRowK HB.out (Nat.le_refl _) _⟩
   rfl
  | some p =>
   have CC := Lib.hid (show ∀ W, Cp 72 #[.string s, .int .i64 k] W fun e w' => e = .returned (.tuple #[.agg #[.int .i64 ((p.1 : Nat) : Int), .string ⟨(bL p.2.1).toArray⟩, .float .f64 p.2.2.1, .bool p.2.2.2.1, .bool false, .int .i64 0, .int .i64 ((k + p.2.2.2.2 : Nat) : Int)], .bool true]) ∧ Below W.heap.size W w' from CC.out)
   have HE : Hid (TokE (tokO k (some p)) = .returned (.tuple #[.agg #[.int .i64 ((p.1 : Nat) : Int), .string ⟨(bL p.2.1).toArray⟩, .float .f64 p.2.2.1, .bool p.2.2.2.1, .bool false, .int .i64 0, .int .i64 ((k + p.2.2.2.2 : Nat) : Int)], .bool true])) := Lib.hid rfl
   obtain ⟨kd, hkd⟩ : ∃ kd : Int, ((p.1 : Nat) : Int) = kd := ⟨_, rfl⟩
   obtain ⟨tx, htx⟩ : ∃ tx : ByteArray, (⟨(bL p.2.1).toArray⟩ : ByteArray) = tx := ⟨_, rfl⟩
   obtain ⟨xx, hxx⟩ : ∃ xx, p.2.2.1 = xx := ⟨_, rfl⟩
   obtain ⟨es, hes⟩ : ∃ es, p.2.2.2.1 = es := ⟨_, rfl⟩
   obtain ⟨fi, hfi⟩ : ∃ fi : Int, ((k + p.2.2.2.2 : Nat) : Int) = fi := ⟨_, rfl⟩
   rw [hkd, htx, hxx, hes, hfi] at CC HE
   clear hkd htx hxx hes hfi
   go_enter Tryz.func37, Tryz.ntmps37
   go_wp2_with fail
   refine (C1.out _).mono ?_
   rintro e w' ⟨rfl, n1, rfl⟩
   go_wp2_with fail
   refine (CS.out _).mono ?_
   rintro e w' ⟨rfl, rfl⟩
   go_wp2_with fail
   refine (CD.out _).mono ?_
   rintro e w' ⟨rfl, rfl⟩
   go_wp2_with fail
   refine (CU.out _).mono ?_
   rintro e w' ⟨rfl, n2, rfl⟩
   go_wp2_with fail
   refine (CD2.out _).mono ?_
   rintro e w' ⟨rfl, rfl⟩
   go_wp2_with fail
   refine (CC.out _).mono ?_
   rintro e w1 ⟨rfl, b1⟩
   have T1 := (T0.out.draw (n1 + n2)).step b1
   have HG := Lib.hid T1.bl
   have HB := Lib.hid T1.bw
   clear T1 b1
   go_wp2_with (refine tkS rfl rfl w.heap.size (kd : Int) tx xx es false 0 fi rfl rfl HG.out ?_)
   refine tkR rfl rfl HG.out rfl rfl ⟨?_, below_setRowK HB.out (Nat.le_refl _) _⟩
   exact HE.out.symm
 ·have g4 : ((c : Int) == 46) = false := by rw [beq_eq_false_iff_ne]; omega
  clear h hd h46 CU
  cases o with
  | none =>
   have CC := Lib.hid (show ∀ W, Cp 72 #[.string s, .int .i64 k] W fun e w' => e = .returned (.tuple #[.agg #[.int .i64 0, .string ⟨#[]⟩, .float .f64 0, .bool false, .bool false, .int .i64 0, .int .i64 0], .bool false]) ∧ Below W.heap.size W w' from CC.out)
   go_enter Tryz.func37, Tryz.ntmps37
   go_wp2_with fail
   refine (C1.out _).mono ?_
   rintro e w' ⟨rfl, n1, rfl⟩
   go_wp2_with fail
   refine (CS.out _).mono ?_
   rintro e w' ⟨rfl, rfl⟩
   go_wp2_with fail
   refine (CD.out _).mono ?_
   rintro e w' ⟨rfl, rfl⟩
   go_wp2_with fail
   refine (CC.out _).mono ?_
   rintro e w1 ⟨rfl, b1⟩
   have T1 := (T0.out.draw (n1)).step b1
   have HG := Lib.hid T1.bl
   have HB := Lib.hid T1.bw
   clear T1 b1
   go_wp2_with (refine tkS rfl rfl w.heap.size 0 ⟨#[]⟩ 0 false false 0 0 rfl rfl HG.out ?_)
   refine tkR rfl rfl HG.out rfl rfl ⟨?_, below_setRowK HB.out (Nat.le_refl _) _⟩
   rfl
  | some p =>
   have CC := Lib.hid (show ∀ W, Cp 72 #[.string s, .int .i64 k] W fun e w' => e = .returned (.tuple #[.agg #[.int .i64 ((p.1 : Nat) : Int), .string ⟨(bL p.2.1).toArray⟩, .float .f64 p.2.2.1, .bool p.2.2.2.1, .bool false, .int .i64 0, .int .i64 ((k + p.2.2.2.2 : Nat) : Int)], .bool true]) ∧ Below W.heap.size W w' from CC.out)
   have HE : Hid (TokE (tokO k (some p)) = .returned (.tuple #[.agg #[.int .i64 ((p.1 : Nat) : Int), .string ⟨(bL p.2.1).toArray⟩, .float .f64 p.2.2.1, .bool p.2.2.2.1, .bool false, .int .i64 0, .int .i64 ((k + p.2.2.2.2 : Nat) : Int)], .bool true])) := Lib.hid rfl
   obtain ⟨kd, hkd⟩ : ∃ kd : Int, ((p.1 : Nat) : Int) = kd := ⟨_, rfl⟩
   obtain ⟨tx, htx⟩ : ∃ tx : ByteArray, (⟨(bL p.2.1).toArray⟩ : ByteArray) = tx := ⟨_, rfl⟩
   obtain ⟨xx, hxx⟩ : ∃ xx, p.2.2.1 = xx := ⟨_, rfl⟩
   obtain ⟨es, hes⟩ : ∃ es, p.2.2.2.1 = es := ⟨_, rfl⟩
   obtain ⟨fi, hfi⟩ : ∃ fi : Int, ((k + p.2.2.2.2 : Nat) : Int) = fi := ⟨_, rfl⟩
   rw [hkd, htx, hxx, hes, hfi] at CC HE
   clear hkd htx hxx hes hfi
   go_enter Tryz.func37, Tryz.ntmps37
   go_wp2_with fail
   refine (C1.out _).mono ?_
   rintro e w' ⟨rfl, n1, rfl⟩
   go_wp2_with fail
   refine (CS.out _).mono ?_
   rintro e w' ⟨rfl, rfl⟩
   go_wp2_with fail
   refine (CD.out _).mono ?_
   rintro e w' ⟨rfl, rfl⟩
   go_wp2_with fail
   refine (CC.out _).mono ?_
   rintro e w1 ⟨rfl, b1⟩
   have T1 := (T0.out.draw (n1)).step b1
   have HG := Lib.hid T1.bl
   have HB := Lib.hid T1.bw
   clear T1 b1
   go_wp2_with (refine tkS rfl rfl w.heap.size (kd : Int) tx xx es false 0 fi rfl rfl HG.out ?_)
   refine tkR rfl rfl HG.out rfl rfl ⟨?_, below_setRowK HB.out (Nat.le_refl _) _⟩
   exact HE.out.symm
theorem xread_end (s : ByteArray) (k : Nat) (w : World)
  (C1 : Hid (∀ W, Cp 66 #[.string s, .int .i64 k] W fun e w' => e = .returned (.tuple #[.int .u16 0, .bool false]) ∧ ∃ n, w' = W.drewN n)) :
  Cp 37 #[.string s, .int .i64 k] w fun e w' => e = TokE (tokO k (some (1, [], 0, false, 0))) ∧ Below w.heap.size w w' := by
 have T0 := Lib.hid (TB.start w)
 go_enter Tryz.func37, Tryz.ntmps37
 go_wp2_with fail
 refine (C1.out _).mono ?_
 rintro e w' ⟨rfl, n1, rfl⟩
 have T1 := T0.out.draw n1
 have HG := Lib.hid T1.bl
 have HB := Lib.hid T1.bw
 clear T1
 go_wp2_with (refine tkS rfl rfl w.heap.size 1 ⟨#[]⟩ 0 false false 0 (k : Int) rfl rfl HG.out ?_)
 refine tkR rfl rfl HG.out rfl rfl ⟨?_, below_setRowK HB.out (Nat.le_refl _) _⟩
 rfl
theorem xread_any (s : ByteArray) (k : Nat) (w : World) (hs : s.size ≤ 4398046511104) (hk : k ≤ ln s) :
  Cp 37 #[.string s, .int .i64 k] w fun e w' => e = TokE (tokO k (readL ((us s).drop k))) ∧ Below w.heap.size w w' := by
 have hs63 : s.size ≤ maxLen := by unfold maxLen; omega
 have hln := ln_le s
 have hkl : (k : Int) ≤ 70368744177664 := by omega
 have CT := fun W => unitT_any s k W hs63
 rcases Nat.lt_or_ge k (ln s) with hlt | hge
 ·obtain ⟨c, h1, h2⟩ := drop_step (L := us s) (k := k) (by rw [us_length]; exact hlt)
  have CU : ∀ W, Cp 36 #[.string s, .int .i64 ((k : Int) + 1)] W fun e w' => e = .returned (.int .u16 ((hd0 ((us s).drop (k + 1)) : Nat) : Int)) ∧ ∃ n, w' = W.drewN n := fun W => xunit_any s (k + 1) W hs63
  have CN := fun W => xname_any s k W hs hk
  have CQ := fun W h => xquoted_any s k W (by omega) hlt h
  have CM := fun W => xnumber_any s k W (by omega) hk
  have CK := fun W => xmark_any s k W (by omega) hk
  rw [h2] at CT CQ
  rw [h1] at CT CM CK ⊢
  have C1 := Lib.hid (show ∀ W, Cp 66 #[.string s, .int .i64 k] W fun e w' => e = .returned (.tuple #[.int .u16 (c : Nat), .bool true]) ∧ ∃ n, w' = W.drewN n from CT)
  rw [readL]
  by_cases e1 : (stN c || c == 92) = true
  ·rw [if_pos e1]
   refine xread_name s k c w _ hkl e1 C1 (Lib.hid fun W => ?_)
   have e : namV (namR k [] false s) = tokO k ((namL (c :: (us s).drop (k + 1))).map fun p => (if resB p.1 = true then 3 else 2, p.1, 0, p.2.1, p.2.2)) := by
    unfold namV namR tokO namL namG
    rw [h1, show (([] : List Nat).length == 0) = true from rfl]
    cases namF ((c :: (us s).drop (k + 1)).length + 1) true (c :: (us s).drop (k + 1)) with
    | none => rfl
    | some p => simp
   rw [← e]
   exact CN W
  ·rw [if_neg e1]
   have e1' : (stN c || c == 92) = false := by simpa using e1
   obtain ⟨hst, h92⟩ : stN c = false ∧ c ≠ 92 := by simpa using e1'
   by_cases e2 : (c == 34 || c == 39) = true
   ·rw [if_pos e2]
    have e3 : c = 34 ∨ c = 39 := by simpa using e2
    refine xread_quoted s k c w _ hkl e3 C1 (Lib.hid fun W => ?_)
    have e : quoV k (strL c ((us s).drop (k + 1))) = tokO k ((strL c ((us s).drop (k + 1))).map fun p => (6, p.1, 0, false, 1 + p.2)) := by
     unfold quoV tokO
     cases strL c ((us s).drop (k + 1)) with
     | none => rfl
     | some p => simp [Nat.add_assoc]
    rw [← e]
    exact CQ W e3
   ·rw [if_neg e2]
    obtain ⟨h34, h39⟩ : c ≠ 34 ∧ c ≠ 39 := by simpa using e2
    by_cases e4 : (dg10 c || (c == 46 && dg10 (hd0 ((us s).drop (k + 1))))) = true
    ·rw [if_pos e4]
     refine xread_number s k c w _ hkl hst h92 h34 h39 _ (Lib.hid CU) e4 C1 (Lib.hid fun W => ?_)
     have e : nmV k (c :: (us s).drop (k + 1)) = tokO k ((numL (c :: (us s).drop (k + 1))).map fun p => (5, [], p.1, false, p.2)) := by
      obtain ⟨n1, n2⟩ := num_same (c :: (us s).drop (k + 1))
      unfold nmV tokO numL
      rw [n1]
      by_cases n3 : numO (c :: (us s).drop (k + 1)) (numR (c :: (us s).drop (k + 1))) = true
      ·rw [if_pos n3, if_pos n3, n2 n3]
       rfl
      ·rw [if_neg n3, if_neg n3]
       rfl
     rw [← e]
     exact CM W
    ·rw [if_neg e4]
     refine xread_mark s k c w _ hkl hst h92 h34 h39 _ (Lib.hid CU) (by simpa using e4) C1 (Lib.hid fun W => ?_)
     have e : mkV k (markL (c :: (us s).drop (k + 1))) = tokO k ((markL (c :: (us s).drop (k + 1))).map fun t => (4, t, 0, false, t.length)) := by
      unfold mkV tokO
      cases markL (c :: (us s).drop (k + 1)) with
      | none => rfl
      | some p => rfl
     rw [← e]
     exact CK W
 ·have hd : (us s).drop k = [] := List.drop_eq_nil_iff.2 (by rw [us_length]; exact hge)
  rw [hd] at CT ⊢
  exact xread_end s k w (Lib.hid CT)

end
section
open Go.RowKit
def skE (k : Nat) (b : Bool) (p : Nat × Bool × Bool) : Ending := .returned (.tuple #[.int .i64 ((k + p.1 : Nat) : Int), .bool (b || p.2.1), .bool p.2.2])
theorem xskip_any (s : ByteArray) (k : Nat) (w : World) (hs : s.size ≤ 140737488355328) (hk : k ≤ ln s) :
    Cp 35 #[.string s, .int .i64 k] w fun e w' => e = skE k false (skipL ((us s).drop k)) ∧ ∃ n, w' = w.drewN n := by
  have C1 := Lib.hid (fun (j : Nat) (h : j ≤ ln s) W => xgap_any s j W hs h)
  have hln := ln_le s
  have hl : ((ln s : Nat) : Int) ≤ 140737488355328 := by omega
  obtain ⟨R, hR⟩ : ∃ R, skE k false (skipL ((us s).drop k)) = R := ⟨_, rfl⟩
  rw [hR]
  have HR := Lib.hid hR
  have HK := Lib.hid hk
  clear hs hln hR hk
  go_enter Tryz.func35, Tryz.ntmps35
  go_wp2
  go_loopw [1, 7] (fun v nl wr => ∃ (j : Nat) (b : Bool), v = .int .i64 j ∧ nl = .bool b ∧ j ≤ ln s ∧ Hid (R = skE j b (skipL ((us s).drop j))) ∧ ∃ n, wr = w.drewN n) (fun v _ _ => ln s - (intOf v).toNat)
  case atStart => exact ⟨k, false, rfl, rfl, HK.out, Lib.hid HR.out.symm, 0, rfl⟩
  case round =>
    obtain ⟨j, b, rfl, rfl, hj, HJ, n0, rfl⟩ := hrel
    have C2 := Lib.hid (C1.out j hj)
    have hs1 := skip_next ((us s).drop j)
    cases hg : gapL ((us s).drop j) with
    | none =>
      rw [hg] at C2 hs1
      have HJ2 : Hid (R = skE j b (0, false, false)) := Lib.hid (by rw [HJ.out, hs1])
      clear hg hs1 HJ
      go_wp2_with fail
      refine (C2.out _).mono ?_
      rintro e w' ⟨rfl, n1, rfl⟩
      simp only [Option.map_none, comE]
      go_wp2
      go_ret3
      exact ⟨by rw [HJ2.out]; simp [skE], n0 + n1, by first | rfl | simp⟩
    | some p =>
      obtain ⟨n, g⟩ := p
      cases n with
      | zero =>
        rw [hg] at C2 hs1
        have HJ2 : Hid (R = skE j b (0, false, true)) := Lib.hid (by rw [HJ.out, hs1])
        clear hg hs1 HJ
        go_wp2_with fail
        refine (C2.out _).mono ?_
        rintro e w' ⟨rfl, n1, rfl⟩
        simp only [Option.map_some, comE, comP, Bool.false_or, Nat.add_zero]
        go_wp2
        go_ret3
        exact ⟨by rw [HJ2.out]; simp [skE], n0 + n1, by first | rfl | simp⟩
      | succ n =>
        have hle := gap_le hg
        rw [List.length_drop, us_length] at hle
        rw [hg] at C2 hs1
        have HJ2 : Hid (R = skE (j + (n + 1)) (b || g) (skipL ((us s).drop (j + (n + 1))))) := Lib.hid (by
          rw [HJ.out, hs1]
          simp only [List.drop_drop]
          unfold skE
          simp only [Bool.or_assoc, Nat.add_assoc])
        obtain ⟨m, hm⟩ : ∃ m, j + (n + 1) = m := ⟨_, rfl⟩
        have hm1 : j < m := by omega
        have hm2 : m ≤ ln s := by omega
        have hm3 : ¬ ((m : Int) = (j : Int)) := by omega
        rw [hm] at HJ2
        simp only [Option.map_some, comE, comP, Bool.false_or] at C2
        rw [hm] at C2
        clear hg hs1 HJ hle hm
        cases b
        all_goals
          go_wp2_with fail
          refine (C2.out _).mono ?_
          rintro e w' ⟨rfl, n1, rfl⟩
          go_wp2
          go_roundw
          case rel => exact ⟨m, _, rfl, rfl, hm2, HJ2, n0 + n1, by first | rfl | simp⟩
          case measure => simp [intOf]; omega


end
end Go.Proofs.YtmimeejjaneedaaGreatDoor
