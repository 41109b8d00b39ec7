/-
  The law's own tree. What is wrong in the law's own tree: the program's first at it. The law's awake tells true.
-/
import Derived.Test.YtjbofhaiephedaaGreatJn
import Derived.Test.YtjbofhaiephedaaGreatWq
import Derived.Test.YtjbofhaiephedaaGreatNi
import Derived.Great.BuildSlice
import Derived.Test.YtjbofhaiephedaaGreatNh
namespace Go.Proofs.YtjbofhaiephedaaGreat
open Go.RowKit Go.Shelf
def nmA : Nd := ⟨2, ⟨#[]⟩, wdS [97], 0, false, 9⟩
def nmD : Nd := ⟨18, ⟨#[100, 101, 108, 101, 116, 101]⟩, ⟨#[]⟩, 0, false, 2⟩
def nmE : Nd := ⟨47, ⟨#[]⟩, ⟨#[]⟩, 0, false, 0⟩
def nmP : Nd := ⟨40, ⟨#[]⟩, ⟨#[]⟩, 0, false, 0⟩
def tA : Tn := .mk nmA []
def tD : Tn := .mk nmD [tA]
def tE : Tn := .mk nmE [tD]
def tP : Tn := .mk nmP [tE]
theorem rwd_any (L : List Nat) (w : World) (hL : (L.all fun c => decide (c < 256)) = true) (hl : L.length ≤ 100000) : Calls Tryz.prog 22 #[.string (strOf L)] w fun e w' => e = .returned (.string (wdS L)) ∧ Below w.heap.size w w' :=
  vwide_any L w (fun c hc => by simpa using List.all_eq_true.1 hL c hc) hl
theorem results_cellN {fn : Func} {p : Tmp} {ty : TypeId} (h : fn.results = #[.cell p ty]) (tmps : Array Value) (P : Program) (w : World) (a : Addr) (v : Value) (ha : tmps.getD p undef = .pointer (some a)) (hl : (loadVar ty a).run P w = .ok v w) :
    (results fn tmps).run P w = .ok v w := by
  simp only [results, h]
  simp [-Array.getD_eq_getD_getElem?, ha, asAddr, hl]
theorem ndR {fn : Func} {p : Tmp} {R : Ending → World → Prop} {a : Act} {w : World} {g : Nat} {c : Array Value} (hG : w.heap[g]? = some (.cells c 25 (0, 0))) (hc : c.size = 7) (hr : fn.results = #[.cell p 25]) (ha : a.tmps.getD p undef = .pointer (some ⟨g, 0, none⟩)) (hd : a.defers = []) (hR : R (.returned (.agg c)) w) : bodyPost Tryz.prog fn R .ret a w :=
  bodyPost_ret (results_cellN hr _ _ _ _ _ ha (run_loadVar_row _ g 25 25 c (0, 0) _ hG Tryz.underlying25 rfl (by rw [hc]; kernel_rfl))) hd hR
theorem new1 (W : World) (c : Array Value) (t : TypeId) : (W.alloc (.cells c t)).heap[W.heap.size]? = some (.cells c t (0, 0)) := heap_alloc_last W _
theorem new2 (W : World) (A : Obj) (c : Array Value) (t : TypeId) : ((W.alloc A).alloc (.cells c t)).heap[W.heap.size + 1]? = some (.cells c t (0, 0)) := by
  have e : (W.alloc A).heap.size = W.heap.size + 1 := by simp
  rw [← e]
  exact heap_alloc_last (W.alloc A) _
theorem row2 (W : World) (A : Obj) (o c : Array Value) (t : TypeId) : ((W.alloc A).alloc (.cells o t)).setRow (W.heap.size + 1) c = (W.alloc A).alloc (.cells c t) := by
  have e : (W.alloc A).heap.size = W.heap.size + 1 := by simp
  rw [← e, World.setRow_alloc_new]
theorem below_setRowN {B g : Nat} {a w : World} (h : Below B a w) (hg : B ≤ g) (c : Array Value) : Below B a (w.setRow g c) :=
  ⟨h.os, h.tape, h.output, by rw [size_setRow]; exact h.size, fun k hk => (setRow_other w g k c (by omega)).trans (h.block k hk)⟩
/-- A node's block. -/
def BlN (W : World) (g : Nat) (d : Nd) (s : Value) : Prop := W.heap[g]? = some (.cells #[.int .i64 d.k, .string d.op, .string d.st, .float .f64 d.nm, .bool d.fl, s, .int .i64 d.ps] 25 (0, 0))
theorem BlN.range {W : World} {g : Nat} {d : Nd} {s : Value} (h : BlN W g d s) : W.rangeAt g 0 (celN d s) := fun j v hv => by
  rw [Nat.zero_add]
  refine (cell_of_row W g j _ _ _ h).trans ?_
  rw [List.getElem?_toArray]
  exact hv
theorem BlN.cs {W : World} {g : Nat} {d : Nd} {s : Value} (h : BlN W g d s) : W.cell? ⟨g, 0, none⟩ = some (.int .i64 d.k) ∧ W.cell? ⟨g, 1, none⟩ = some (.string d.op) ∧ W.cell? ⟨g, 2, none⟩ = some (.string d.st) ∧ W.cell? ⟨g, 3, none⟩ = some (.float .f64 d.nm) ∧ W.cell? ⟨g, 4, none⟩ = some (.bool d.fl) ∧ W.cell? ⟨g, 5, none⟩ = some s ∧ W.cell? ⟨g, 6, none⟩ = some (.int .i64 d.ps) :=
  ⟨(cell_of_row W g 0 _ _ _ h).trans rfl, (cell_of_row W g 1 _ _ _ h).trans rfl, (cell_of_row W g 2 _ _ _ h).trans rfl, (cell_of_row W g 3 _ _ _ h).trans rfl, (cell_of_row W g 4 _ _ _ h).trans rfl, (cell_of_row W g 5 _ _ _ h).trans rfl, (cell_of_row W g 6 _ _ _ h).trans rfl⟩
theorem BlN.on {W W' : World} {g : Nat} {d : Nd} {s : Value} {n : Nat} (h : BlN W g d s) (b : Below n W W') (hg : g < n) : BlN W' g d s := (b.block g hg).trans h
/-- A row of one node is a slice of nodes. -/
theorem AtS.one {p : Nat → Prop} {W : World} {g : Nat} {t : Tn} {s : Value} (h : BlN W g t.datum s) (hs : AtS p W t.kids s) (hp : p g) : AtS p W [t] (.slice (some ⟨g, 0, none⟩) 1 1) := by
  refine ⟨_, 1, rfl, ⟨by simp [maxLen], by simp⟩, fun _ => ⟨g, 0, rfl, hp, ?_⟩⟩
  rw [AtL]
  obtain ⟨d, l⟩ := t
  exact ⟨⟨_, h.range, at_node.2 ⟨s, rfl, hs⟩⟩, by rw [AtL]; trivial⟩
def z7 : Array Value := #[.int .i64 0, .string ⟨#[]⟩, .string ⟨#[]⟩, .float .f64 0, .bool false, .slice none 0 0, .int .i64 0]
set_option maxRecDepth 100000 in
set_option maxHeartbeats 2000000 in
theorem named_any (w : World) : Calls Tryz.prog 21 #[] w fun e w' => (∃ A, e = .returned (nodV nmP (.slice A 1 1)) ∧ AtS (fun b => b < w'.heap.size) w' [tE] (.slice A 1 1)) ∧ Below w.heap.size w w' := by
  have C1 := Lib.hid (fun W => (show Calls Tryz.prog 22 #[.string ⟨#[97]⟩] W fun e w' => e = .returned (.string (wdS [97])) ∧ Below W.heap.size W w' from rwd_any [97] W rfl (by decide)))
  obtain ⟨S, hS⟩ : ∃ S, wdS [97] = S := ⟨_, rfl⟩
  rw [hS] at C1
  have HS := Lib.hid hS
  clear hS
  go_enter Tryz.func21, Tryz.ntmps21
  go_upto_region 1 with fail
  rw [show (#[.int .i64 0, .string ⟨#[]⟩, .string ⟨#[]⟩, .float .f64 0, .bool false, .slice none 0 0, .int .i64 0] : Array Value) = z7 from rfl]
  obtain ⟨W1, hW1⟩ : ∃ W1, w.alloc (.cells z7 25) = W1 := ⟨_, rfl⟩
  have g0 : W1.heap[w.heap.size]? = some (.cells z7 25 (0, 0)) := by rw [← hW1]; exact new1 w _ _
  have s1 : W1.heap.size = w.heap.size + 1 := by rw [← hW1]; simp
  have B1 : Below w.heap.size w W1 := by rw [← hW1]; exact b1 _
  have G0 := Lib.hid g0
  have S1 := Lib.hid s1
  have HB1 := Lib.hid B1
  rw [hW1]
  clear hW1 g0 s1 B1
  go_wp2_with fail
  refine (C1.out _).mono ?_
  rintro e w2 ⟨rfl, b2⟩
  have G2 := Lib.hid ((b2.block w.heap.size (by have := S1.out; omega)).trans G0.out)
  have S2 := Lib.hid (show w.heap.size < w2.heap.size by have := S1.out; have := b2.size; omega)
  have HB2 := Lib.hid (HB1.out.trans (b2.mono HB1.out.size))
  clear b2 C1 G0 S1 HB1
  go_upto_region 2 with (refine wpList_store_row rfl 25 _ _ rfl w2.heap.size _ rfl rfl 25 _ (heap_alloc_last w2 _) (by kernel_rfl) rfl (by kernel_rfl) ?_; rw [World.setRow_alloc_new])
  obtain ⟨W3, hW3⟩ : ∃ W, w2.alloc (.cells #[.int .i64 2, .string ⟨#[]⟩, .string S, .float .f64 0, .bool false, .slice none 0 0, .int .i64 9] 25) = W := ⟨_, rfl⟩
  have n3 : BlN W3 w2.heap.size ⟨2, ⟨#[]⟩, S, 0, false, 9⟩ (.slice none 0 0) := by rw [← hW3]; exact new1 w2 _ _
  have s3 : W3.heap.size = w2.heap.size + 1 := by rw [← hW3]; simp
  have b3 : Below w2.heap.size w2 W3 := by rw [← hW3]; exact b1 _
  rw [hW3]
  clear hW3
  obtain ⟨c0, c1, c2, c3, c4, c5, c6⟩ := n3.cs
  dsimp only at c0 c1 c2 c3 c4 c6
  have G3 := Lib.hid ((b3.block _ S2.out).trans G2.out)
  have HB3 := Lib.hid (HB2.out.trans (b3.mono HB2.out.size))
  have S3 := Lib.hid (show w.heap.size < W3.heap.size by have := S2.out; omega)
  clear G2 HB2 S2 b3 n3 s3
  go_upto_region 3 with (refine wpList_store_row rfl 25 _ _ rfl (W3.heap.size + 1) _ rfl rfl 25 _ (new2 W3 _ _ _) (by kernel_rfl) rfl (by kernel_rfl) ?_; rw [row2])
  obtain ⟨W4, hW4⟩ : ∃ W, (W3.alloc (.cells #[.int .i64 2, .string ⟨#[]⟩, .string S, .float .f64 0, .bool false, .slice none 0 0, .int .i64 9] 25)).alloc (.cells #[.int .i64 18, .string ⟨#[100, 101, 108, 101, 116, 101]⟩, .string ⟨#[]⟩, .float .f64 0, .bool false, .slice (some ⟨W3.heap.size, 0, none⟩) 1 1, .int .i64 2] 25) = W := ⟨_, rfl⟩
  have nA : BlN W4 W3.heap.size ⟨2, ⟨#[]⟩, S, 0, false, 9⟩ (.slice none 0 0) := by rw [← hW4]; exact ((b1 _).block _ (by simp)).trans (new1 W3 _ _)
  have nD : BlN W4 (W3.heap.size + 1) nmD (.slice (some ⟨W3.heap.size, 0, none⟩) 1 1) := by rw [← hW4]; exact new2 W3 _ _ _
  have s4 : W4.heap.size = W3.heap.size + 2 := by rw [← hW4]; simp
  have b4 : Below W3.heap.size W3 W4 := by rw [← hW4]; exact (b1 _).alloc (by simp) _
  rw [hW4]
  clear hW4 c0 c1 c2 c3 c4 c5 c6
  obtain ⟨c0, c1, c2, c3, c4, c5, c6⟩ := nD.cs
  unfold nmD at c0 c1 c2 c3 c4 c6
  dsimp only at c0 c1 c2 c3 c4 c6
  have g4 := (b4.block _ S3.out).trans G3.out
  have HB4 := Lib.hid (HB3.out.trans (b4.mono HB3.out.size))
  have hlt : w.heap.size < W3.heap.size := S3.out
  have HG := Lib.hid (fun (A B : Obj) => show ((W4.alloc A).alloc B).heap[w.heap.size]? = some (.cells z7 25 (0, 0)) from ((b1 B).block _ (by simp; omega)).trans (((b1 A).block _ (by omega)).trans g4))
  have NA := Lib.hid nA
  have ND := Lib.hid nD
  have S4 := Lib.hid s4
  have SL := Lib.hid hlt
  clear g4 G3 HB3 S3 nA nD s4 b4 hlt
  go_wp2_with (refine wpList_store_row rfl 25 _ _ rfl w.heap.size _ rfl rfl 25 _ (HG.out _ _) (by kernel_rfl) rfl (by kernel_rfl) ?_)
  clear c0 c1 c2 c3 c4 c5 c6
  refine ndR (setRow_heap _ _ _ _ _ _ (HG.out _ _)) rfl rfl rfl rfl ⟨⟨_, rfl, ?_⟩, ?_⟩
  · have h1 := S4.out
    have h2 := SL.out
    refine AtS.one (t := tE) (s := .slice (some ⟨W4.heap.size, 0, none⟩) 1 1) ((setRow_other _ _ _ _ (by omega)).trans (new2 W4 _ _ _)) (AtS.one (t := tD) (s := .slice (some ⟨W3.heap.size, 0, none⟩) 1 1) ((setRow_other _ _ _ _ (by omega)).trans (((b1 _).block _ (by simp)).trans (new1 W4 _ _))) (AtS.one (t := tA) (s := .slice none 0 0) ?_ ?_ ?_) ?_) ?_
    · show _ = some (Obj.cells #[.int .i64 2, .string ⟨#[]⟩, .string (wdS [97]), .float .f64 0, .bool false, .slice none 0 0, .int .i64 9] 25 (0, 0))
      rw [HS.out]
      exact (setRow_other _ _ _ _ (by omega)).trans (((b1 _).block _ (by simp; omega)).trans (((b1 _).block _ (by omega)).trans NA.out))
    · show AtS _ _ ([] : List Tn) _
      exact ⟨none, 0, rfl, ⟨by simp, by simp⟩, fun h => absurd rfl h⟩
    all_goals (show _ < (World.setRow _ _ _).heap.size; rw [size_setRow]; simp; try omega)
  · have h2 := SL.out
    have h3 := S4.out
    refine below_setRowN ?_ (Nat.le_refl _) _
    exact (HB4.out.alloc (by omega) _).alloc (by simp; omega) _
end Go.Proofs.YtjbofhaiephedaaGreat
namespace Go.Proofs.YtjbofhaiephedaaGreat
open Go.RowKit Go.Shelf
attribute [local go_sem] stFl hmf
theorem abR {fn : Func} {p : Tmp} {R : Ending → World → Prop} {a : Act} {w : World} {g : Nat} {c : Array Value} (hG : w.heap[g]? = some (.cells c 43 (0, 0))) (hc : c.size = 4) (hr : fn.results = #[.cell p 43]) (ha : a.tmps.getD p undef = .pointer (some ⟨g, 0, none⟩)) (hd : a.defers = []) (hR : R (.returned (.agg c)) w) : bodyPost Tryz.prog fn R .ret a w :=
  bodyPost_ret (results_cellN hr _ _ _ _ _ ha (run_loadVar_row _ g 43 43 c (0, 0) _ hG Tryz.underlying43 rfl (by rw [hc]; kernel_rfl))) hd hR
set_option maxRecDepth 100000 in
set_option maxHeartbeats 1000000 in
theorem outside_any (w : World) : Calls Tryz.prog 17 #[] w fun e w' => (∃ g, e = .returned (.agg #[.bool false, .bool false, .bool false, .map (some g)])) ∧ Below w.heap.size w w' := by
  have hmm := @run_makeMap Tryz.prog
  go_enter Tryz.func17, Tryz.ntmps17
  go_wp2
  exact abR (((b1 _).block _ (by simp)).trans (new1 w _ _)) rfl rfl rfl rfl ⟨⟨_, rfl⟩, (b1 _).alloc (by simp) _⟩
set_option maxRecDepth 100000 in
set_option maxHeartbeats 1000000 in
theorem anything_any (i : Int) (x : Value) (w : World) : Calls Tryz.prog 106 #[.int .i64 i, x] w fun e w' => e = .returned (.bool false) ∧ w = w' := by
  go_enter Tryz.func106, Tryz.ntmps106
  go_wp2
  go_ret
  exact ⟨rfl, rfl⟩
def aboV (x y z : Bool) (g : Nat) : Value := .agg #[.bool x, .bool y, .bool z, .map (some g)]
set_option maxRecDepth 100000 in
set_option maxHeartbeats 1000000 in
theorem loops_40 (b o : Nat) (w : World) (h : w.cell? ⟨b, o, none⟩ = some (.int .i64 40)) : Calls Tryz.prog 35 #[.pointer (some ⟨b, o, none⟩)] w fun e w' => e = .returned (.bool false) ∧ w = w' := by
  go_enter Tryz.func35, Tryz.ntmps35
  go_wp2
  go_ret
  exact ⟨rfl, rfl⟩
set_option maxRecDepth 100000 in
set_option maxHeartbeats 1000000 in
theorem parts_40 (b o : Nat) (w : World) (h : w.cell? ⟨b, o, none⟩ = some (.int .i64 40)) : Calls Tryz.prog 55 #[.pointer (some ⟨b, o, none⟩)] w fun e w' => e = .returned (.func (.func 106) #[] #[]) ∧ w = w' := by
  go_enter Tryz.func55, Tryz.ntmps55
  go_wp2
  go_ret
  exact ⟨rfl, rfl⟩
set_option maxRecDepth 100000 in
set_option maxHeartbeats 1000000 in
theorem wrong_40 (x y z : Bool) (g b o : Nat) (w : World) (h : w.cell? ⟨b, o, none⟩ = some (.int .i64 40)) : Calls Tryz.prog 31 #[aboV x y z g, .pointer (some ⟨b, o, none⟩)] w fun e w' => e = .returned (.bool false) ∧ Below w.heap.size w w' := by
  have hk := fun X => (b1 (w := w) X).cell (p := ⟨b, o, none⟩)
  have hb := cell_lt h
  have HB := Lib.hid (b1 (w := w))
  unfold aboV
  go_enter Tryz.func31, Tryz.ntmps31
  go_wp2
  go_ret
  exact ⟨rfl, HB.out _⟩
set_option maxRecDepth 100000 in
set_option maxHeartbeats 1000000 in
theorem loops_47 (b o : Nat) (w : World) (h : w.cell? ⟨b, o, none⟩ = some (.int .i64 47)) : Calls Tryz.prog 35 #[.pointer (some ⟨b, o, none⟩)] w fun e w' => e = .returned (.bool false) ∧ w = w' := by
  go_enter Tryz.func35, Tryz.ntmps35
  go_wp2
  go_ret
  exact ⟨rfl, rfl⟩
set_option maxRecDepth 100000 in
set_option maxHeartbeats 1000000 in
theorem parts_47 (b o : Nat) (w : World) (h : w.cell? ⟨b, o, none⟩ = some (.int .i64 47)) : Calls Tryz.prog 55 #[.pointer (some ⟨b, o, none⟩)] w fun e w' => e = .returned (.func (.func 106) #[] #[]) ∧ w = w' := by
  go_enter Tryz.func55, Tryz.ntmps55
  go_wp2
  go_ret
  exact ⟨rfl, rfl⟩
set_option maxRecDepth 100000 in
set_option maxHeartbeats 1000000 in
theorem wrong_47 (x y z : Bool) (g b o : Nat) (w : World) (h : w.cell? ⟨b, o, none⟩ = some (.int .i64 47)) : Calls Tryz.prog 31 #[aboV x y z g, .pointer (some ⟨b, o, none⟩)] w fun e w' => e = .returned (.bool false) ∧ Below w.heap.size w w' := by
  have hk := fun X => (b1 (w := w) X).cell (p := ⟨b, o, none⟩)
  have hb := cell_lt h
  have HB := Lib.hid (b1 (w := w))
  unfold aboV
  go_enter Tryz.func31, Tryz.ntmps31
  go_wp2
  go_ret
  exact ⟨rfl, HB.out _⟩
set_option maxRecDepth 100000 in
set_option maxHeartbeats 1000000 in
theorem wrong_del (x y z : Bool) (g b o c p q : Nat) (w : World) (h : w.cell? ⟨b, o, none⟩ = some (.int .i64 18)) (h1 : w.cell? ⟨b, o + 1, none⟩ = some (.string ⟨#[100, 101, 108, 101, 116, 101]⟩)) (h5 : w.cell? ⟨b, o + 5, none⟩ = some (.slice (some ⟨c, p, none⟩) 1 q)) (hc : w.cell? ⟨c, p, none⟩ = some (.int .i64 2)) :
    Calls Tryz.prog 31 #[aboV x y z g, .pointer (some ⟨b, o, none⟩)] w fun e w' => e = .returned (.bool true) ∧ Below w.heap.size w w' := by
  have hk := fun X o => (b1 (w := w) X).cell (p := ⟨b, o, none⟩)
  have hk2 := fun X => (b1 (w := w) X).cell (p := ⟨c, p, none⟩)
  have hb := cell_lt h
  have hb2 := cell_lt hc
  have HB := Lib.hid (b1 (w := w))
  unfold aboV
  go_enter Tryz.func31, Tryz.ntmps31
  go_wp2
  go_ret
  exact ⟨rfl, HB.out _⟩
set_option maxRecDepth 100000 in
set_option maxHeartbeats 1000000 in
theorem first_del (x y z : Bool) (g b o c p q : Nat) (w : World) (h : w.cell? ⟨b, o, none⟩ = some (.int .i64 18)) (h1 : w.cell? ⟨b, o + 1, none⟩ = some (.string ⟨#[100, 101, 108, 101, 116, 101]⟩)) (h5 : w.cell? ⟨b, o + 5, none⟩ = some (.slice (some ⟨c, p, none⟩) 1 q)) (hc : w.cell? ⟨c, p, none⟩ = some (.int .i64 2)) :
    Calls Tryz.prog 18 #[aboV x y z g, .pointer (some ⟨b, o, none⟩)] w fun e w' => e = .returned (.pointer (some ⟨b, o, none⟩)) ∧ Below w.heap.size w w' := by
  have C1 := Lib.hid (fun (X : Obj) => wrong_del x y z g b o c p q (w.alloc X) (((b1 X).cell (cell_lt h)).trans h) (((b1 X).cell (cell_lt h)).trans h1) (((b1 X).cell (cell_lt h)).trans h5) (((b1 X).cell (cell_lt hc)).trans hc))
  have HB := Lib.hid (b1 (w := w))
  clear h h1 h5 hc
  unfold aboV at C1 ⊢
  go_enter Tryz.func18, Tryz.ntmps18
  go_wp2_with fail
  refine (C1.out _).mono ?_
  rintro e w2 ⟨rfl, b2⟩
  have HB2 := Lib.hid ((HB.out _).trans (b2.mono (HB.out _).size))
  clear b2 C1
  go_wp2
  go_ret
  exact ⟨rfl, HB2.out⟩
set_option maxRecDepth 100000 in
set_option maxHeartbeats 1000000 in
theorem within_40 (x y z : Bool) (g b o c p q B O : Nat) (w : World) (h : w.cell? ⟨b, o, none⟩ = some (.int .i64 40)) (h5 : w.cell? ⟨b, o + 5, none⟩ = some (.slice (some ⟨c, p, none⟩) 1 q))
    (hF : ∀ W, Below w.heap.size w W → Calls Tryz.prog 18 #[aboV x y z g, .pointer (some ⟨c, p, none⟩)] W fun e w' => e = .returned (.pointer (some ⟨B, O, none⟩)) ∧ Below W.heap.size W w') :
    Calls Tryz.prog 33 #[aboV x y z g, .pointer (some ⟨b, o, none⟩)] w fun e w' => e = .returned (.pointer (some ⟨B, O, none⟩)) ∧ Below w.heap.size w w' := by
  have C1 := Lib.hid (fun (X : Obj) => parts_40 b o (w.alloc X) (((b1 X).cell (cell_lt h)).trans h))
  have C2 := Lib.hid (fun W => anything_any 0 (.pointer (some ⟨c, p, none⟩)) W)
  have C3 := Lib.hid hF
  have hk := fun X o => (b1 (w := w) X).cell (p := ⟨b, o, none⟩)
  have hb := cell_lt h
  have HB := Lib.hid (b1 (w := w))
  clear hF h
  unfold aboV at C3 ⊢
  go_enter Tryz.func33, Tryz.ntmps33
  go_wp2_with fail
  refine (C1.out _).mono ?_
  rintro e w2 ⟨rfl, rfl⟩
  go_wp2
  go_loopw [16] (fun i wr => i = .int .i64 0 ∧ wr = w.alloc (.cells #[.bool x, .bool y, .bool z, .map (some g)] 43)) (fun _ _ => 0)
  case atStart => exact ⟨rfl, rfl⟩
  case round =>
    obtain ⟨rfl, rfl⟩ := hrel
    go_wp2_with fail
    refine (C2.out _).mono ?_
    rintro e w2 ⟨rfl, rfl⟩
    go_wp2_with fail
    refine (C3.out _ (HB.out _)).mono ?_
    rintro e w3 ⟨rfl, b3⟩
    have HB3 := Lib.hid ((HB.out _).trans (b3.mono (HB.out _).size))
    clear b3 C3
    go_wp2
    go_ret
    exact ⟨rfl, HB3.out⟩
set_option maxRecDepth 100000 in
set_option maxHeartbeats 1000000 in
theorem within_47 (x y z : Bool) (g b o c p q B O : Nat) (w : World) (h : w.cell? ⟨b, o, none⟩ = some (.int .i64 47)) (h5 : w.cell? ⟨b, o + 5, none⟩ = some (.slice (some ⟨c, p, none⟩) 1 q))
    (hF : ∀ W, Below w.heap.size w W → Calls Tryz.prog 18 #[aboV x y z g, .pointer (some ⟨c, p, none⟩)] W fun e w' => e = .returned (.pointer (some ⟨B, O, none⟩)) ∧ Below W.heap.size W w') :
    Calls Tryz.prog 33 #[aboV x y z g, .pointer (some ⟨b, o, none⟩)] w fun e w' => e = .returned (.pointer (some ⟨B, O, none⟩)) ∧ Below w.heap.size w w' := by
  have C1 := Lib.hid (fun (X : Obj) => parts_47 b o (w.alloc X) (((b1 X).cell (cell_lt h)).trans h))
  have C2 := Lib.hid (fun W => anything_any 0 (.pointer (some ⟨c, p, none⟩)) W)
  have C3 := Lib.hid hF
  have hk := fun X o => (b1 (w := w) X).cell (p := ⟨b, o, none⟩)
  have hb := cell_lt h
  have HB := Lib.hid (b1 (w := w))
  clear hF h
  unfold aboV at C3 ⊢
  go_enter Tryz.func33, Tryz.ntmps33
  go_wp2_with fail
  refine (C1.out _).mono ?_
  rintro e w2 ⟨rfl, rfl⟩
  go_wp2
  go_loopw [16] (fun i wr => i = .int .i64 0 ∧ wr = w.alloc (.cells #[.bool x, .bool y, .bool z, .map (some g)] 43)) (fun _ _ => 0)
  case atStart => exact ⟨rfl, rfl⟩
  case round =>
    obtain ⟨rfl, rfl⟩ := hrel
    go_wp2_with fail
    refine (C2.out _).mono ?_
    rintro e w2 ⟨rfl, rfl⟩
    go_wp2_with fail
    refine (C3.out _ (HB.out _)).mono ?_
    rintro e w3 ⟨rfl, b3⟩
    have HB3 := Lib.hid ((HB.out _).trans (b3.mono (HB.out _).size))
    clear b3 C3
    go_wp2
    go_ret
    exact ⟨rfl, HB3.out⟩
set_option maxRecDepth 100000 in
set_option maxHeartbeats 1000000 in
theorem first_40 (x y z : Bool) (g b o c p q B O : Nat) (w : World) (h : w.cell? ⟨b, o, none⟩ = some (.int .i64 40)) (h5 : w.cell? ⟨b, o + 5, none⟩ = some (.slice (some ⟨c, p, none⟩) 1 q))
    (hF : ∀ W, Below w.heap.size w W → Calls Tryz.prog 18 #[aboV x y z g, .pointer (some ⟨c, p, none⟩)] W fun e w' => e = .returned (.pointer (some ⟨B, O, none⟩)) ∧ Below W.heap.size W w') :
    Calls Tryz.prog 18 #[aboV x y z g, .pointer (some ⟨b, o, none⟩)] w fun e w' => e = .returned (.pointer (some ⟨B, O, none⟩)) ∧ Below w.heap.size w w' := by
  have C1 := Lib.hid (fun (X : Obj) => wrong_40 x y z g b o (w.alloc X) (((b1 X).cell (cell_lt h)).trans h))
  have C2 := Lib.hid (fun W (hW : Below w.heap.size w W) => loops_40 b o W ((hW.cell (cell_lt h)).trans h))
  have C3 := Lib.hid (fun W (hW : Below w.heap.size w W) => within_40 x y z g b o c p q B O W ((hW.cell (cell_lt h)).trans h) ((hW.cell (cell_lt h)).trans h5) (fun X hX => hF X (hW.trans (hX.mono hW.size))))
  have hk := fun W (hW : Below w.heap.size w W) => (hW.cell (p := ⟨b, o, none⟩) (cell_lt h)).trans h
  have HK := Lib.hid hk
  have HB := Lib.hid (b1 (w := w))
  clear hF h5 hk h
  unfold aboV at C1 C3 ⊢
  go_enter Tryz.func18, Tryz.ntmps18
  go_wp2_with fail
  refine (C1.out _).mono ?_
  rintro e w2 ⟨rfl, b2⟩
  have HB2 := Lib.hid ((HB.out _).trans (b2.mono (HB.out _).size))
  have h0 := HK.out _ HB2.out
  have a0 : w2.heap[w.heap.size]? = some (.cells #[.bool x, .bool y, .bool z, .map (some g)] 43 (0, 0)) := (b2.block _ (by simp)).trans (new1 w _ _)
  have q0 : w2.cell? ⟨w.heap.size, 0, none⟩ = some (.bool x) := (cell_of_row _ _ 0 _ _ _ a0).trans rfl
  have q1 : w2.cell? ⟨w.heap.size, 1, none⟩ = some (.bool y) := (cell_of_row _ _ 1 _ _ _ a0).trans rfl
  have q2 : w2.cell? ⟨w.heap.size, 2, none⟩ = some (.bool z) := (cell_of_row _ _ 2 _ _ _ a0).trans rfl
  have q3 : w2.cell? ⟨w.heap.size, 3, none⟩ = some (.map (some g)) := (cell_of_row _ _ 3 _ _ _ a0).trans rfl
  clear b2 C1 a0
  go_wp2_with fail
  refine (C2.out _ HB2.out).mono ?_
  rintro e w3 ⟨rfl, rfl⟩
  go_wp2_with fail
  refine (C3.out _ HB2.out).mono ?_
  rintro e w3 ⟨rfl, b3⟩
  have HB3 := Lib.hid (HB2.out.trans (b3.mono HB2.out.size))
  clear b3
  go_wp2
  go_ret
  exact ⟨rfl, HB3.out⟩
set_option maxRecDepth 100000 in
set_option maxHeartbeats 1000000 in
theorem first_47 (x y z : Bool) (g b o c p q B O : Nat) (w : World) (h : w.cell? ⟨b, o, none⟩ = some (.int .i64 47)) (h5 : w.cell? ⟨b, o + 5, none⟩ = some (.slice (some ⟨c, p, none⟩) 1 q))
    (hF : ∀ W, Below w.heap.size w W → Calls Tryz.prog 18 #[aboV x y z g, .pointer (some ⟨c, p, none⟩)] W fun e w' => e = .returned (.pointer (some ⟨B, O, none⟩)) ∧ Below W.heap.size W w') :
    Calls Tryz.prog 18 #[aboV x y z g, .pointer (some ⟨b, o, none⟩)] w fun e w' => e = .returned (.pointer (some ⟨B, O, none⟩)) ∧ Below w.heap.size w w' := by
  have C1 := Lib.hid (fun (X : Obj) => wrong_47 x y z g b o (w.alloc X) (((b1 X).cell (cell_lt h)).trans h))
  have C2 := Lib.hid (fun W (hW : Below w.heap.size w W) => loops_47 b o W ((hW.cell (cell_lt h)).trans h))
  have C3 := Lib.hid (fun W (hW : Below w.heap.size w W) => within_47 x y z g b o c p q B O W ((hW.cell (cell_lt h)).trans h) ((hW.cell (cell_lt h)).trans h5) (fun X hX => hF X (hW.trans (hX.mono hW.size))))
  have hk := fun W (hW : Below w.heap.size w W) => (hW.cell (p := ⟨b, o, none⟩) (cell_lt h)).trans h
  have HK := Lib.hid hk
  have HB := Lib.hid (b1 (w := w))
  clear hF h5 hk h
  unfold aboV at C1 C3 ⊢
  go_enter Tryz.func18, Tryz.ntmps18
  go_wp2_with fail
  refine (C1.out _).mono ?_
  rintro e w2 ⟨rfl, b2⟩
  have HB2 := Lib.hid ((HB.out _).trans (b2.mono (HB.out _).size))
  have h0 := HK.out _ HB2.out
  have a0 : w2.heap[w.heap.size]? = some (.cells #[.bool x, .bool y, .bool z, .map (some g)] 43 (0, 0)) := (b2.block _ (by simp)).trans (new1 w _ _)
  have q0 : w2.cell? ⟨w.heap.size, 0, none⟩ = some (.bool x) := (cell_of_row _ _ 0 _ _ _ a0).trans rfl
  have q1 : w2.cell? ⟨w.heap.size, 1, none⟩ = some (.bool y) := (cell_of_row _ _ 1 _ _ _ a0).trans rfl
  have q2 : w2.cell? ⟨w.heap.size, 2, none⟩ = some (.bool z) := (cell_of_row _ _ 2 _ _ _ a0).trans rfl
  have q3 : w2.cell? ⟨w.heap.size, 3, none⟩ = some (.map (some g)) := (cell_of_row _ _ 3 _ _ _ a0).trans rfl
  clear b2 C1 a0
  go_wp2_with fail
  refine (C2.out _ HB2.out).mono ?_
  rintro e w3 ⟨rfl, rfl⟩
  go_wp2_with fail
  refine (C3.out _ HB2.out).mono ?_
  rintro e w3 ⟨rfl, b3⟩
  have HB3 := Lib.hid (HB2.out.trans (b3.mono HB2.out.size))
  clear b3
  go_wp2
  go_ret
  exact ⟨rfl, HB3.out⟩
end Go.Proofs.YtjbofhaiephedaaGreat
namespace Go.Proofs.YtjbofhaiephedaaGreat
open Go.RowKit Go.Shelf
attribute [local go_sem] stFl hmf
def nmdE (s : ByteArray) : Bool := nmdL (us s)
def rsvE (s : ByteArray) : Bool := resW.any fun x => (⟨(encS s).toArray⟩ : ByteArray).toList == x
theorem lxE : Lx nmdE rsvE :=
  ⟨fun s W hs => (xNamed_any s W (by omega)).mono fun e w' ⟨h1, n, h2⟩ => ⟨h1, by rw [h2]; exact below_drewN' (Below.refl _ _) n⟩, fun s W hs => xReserved_enc s W hs⟩
theorem ok_own : treeOk nmdE rsvE tP = true := by decide +kernel
theorem one_parts {p : Nat → Prop} {W : World} {t : Tn} {A : Option Addr} {c : Nat} (h : AtS p W [t] (.slice A 1 c)) : ∃ b o s, A = some ⟨b, o, none⟩ ∧ W.cell? ⟨b, o, none⟩ = some (.int .i64 t.datum.k) ∧ W.cell? ⟨b, o + 1, none⟩ = some (.string t.datum.op) ∧ W.cell? ⟨b, o + 5, none⟩ = some s ∧ W.cell? ⟨b, o + 6, none⟩ = some (.int .i64 t.datum.ps) ∧ AtS p W t.kids s := by
  obtain ⟨b, o, s, h1, -, -, h2, h3⟩ := AtS.nth h (i := 0) (t := t) rfl
  refine ⟨b, o, s, h1, ?_, ?_, ?_, ?_, h3⟩
  · simpa using h2 0 _ rfl
  · simpa using h2 1 _ rfl
  · simpa using h2 5 _ rfl
  · simpa using h2 6 _ rfl
theorem fit_own : Fit tP := by unfold Fit; decide +kernel
set_option maxRecDepth 100000 in
set_option maxHeartbeats 1000000 in
theorem check_own (A : Option Addr) (c : Nat) (w : World) (hA : AtS (fun b => b < w.heap.size) w [tE] (.slice A 1 c)) : Calls Tryz.prog 7 #[nodV nmP (.slice A 1 c)] w fun e w' => e = .returned (.tuple #[.int .i64 2, .int .i64 60]) ∧ Below w.heap.size w w' := by
  obtain ⟨x1, o1, s1, rfl, a0, -, a5, -, h1⟩ := one_parts hA
  obtain ⟨A2, c2, rfl, -, -⟩ := id h1
  obtain ⟨x2, o2, s2, rfl, d0, d1, d5, d6, h2⟩ := one_parts h1
  obtain ⟨A3, c3, rfl, -, -⟩ := id h2
  obtain ⟨x3, o3, s3, rfl, n0, -, -, -, -⟩ := one_parts h2
  have C1 := Lib.hid (fun (X : Obj) => aCheck_any lxE tP (celN nmP (.slice (some ⟨x1, o1, none⟩) 1 c)) (w.alloc X) (at_node.2 ⟨_, rfl, (hA.keep (fun b hb _ => (b1 X).block b hb)).imp (fun b hb => Nat.lt_of_lt_of_le hb (b1 X).size)⟩) fit_own (by decide +kernel))
  rw [ok_own, if_pos rfl] at C1
  have C2 := Lib.hid (fun W => outside_any W)
  have C3 := Lib.hid (fun (g b : Nat) W (hW : Below w.heap.size w W) (k0 : W.cell? ⟨b, 0, none⟩ = some (.int .i64 40)) (k5 : W.cell? ⟨b, 0 + 5, none⟩ = some (.slice (some ⟨x1, o1, none⟩) 1 c)) =>
    first_40 false false false g b 0 x1 o1 c x2 o2 W k0 k5 (fun W2 h2 =>
      have hb := hW.trans (h2.mono hW.size)
      first_47 false false false g x1 o1 x2 o2 c2 x2 o2 W2 ((hb.cell (cell_lt a0)).trans a0) ((hb.cell (cell_lt a5)).trans a5) (fun W3 h3 =>
        have hb2 := hb.trans (h3.mono hb.size)
        first_del false false false g x2 o2 x3 o3 c3 W3 ((hb2.cell (cell_lt d0)).trans d0) ((hb2.cell (cell_lt d1)).trans d1) ((hb2.cell (cell_lt d5)).trans d5) ((hb2.cell (cell_lt n0)).trans n0))))
  have HD := Lib.hid (fun W (hW : Below w.heap.size w W) => (hW.cell (cell_lt d6)).trans d6)
  have HB := Lib.hid (b1 (w := w))
  clear hA a0 a5 h1 d0 d1 d5 d6 h2 n0
  unfold nodV nmP celN at *
  unfold aboV at C3
  dsimp only at C1 ⊢
  go_enter Tryz.func7, Tryz.ntmps7
  go_wp2_with fail
  refine (C1.out _).mono ?_
  rintro e w2 ⟨rfl, b2⟩
  have HB2 := Lib.hid ((HB.out _).trans (b2.mono (HB.out _).size))
  have k := b2.block w.heap.size (by simp)
  rw [new1 w] at k
  have k0 := Lib.hid ((cell_of_row w2 w.heap.size 0 _ _ _ k).trans rfl)
  have k5 := Lib.hid ((cell_of_row w2 w.heap.size 5 _ _ _ k).trans rfl)
  clear C1 b2 k
  go_wp2_with fail
  refine (C2.out _).mono ?_
  rintro e w3 ⟨⟨g, rfl⟩, b3⟩
  have HB3 := Lib.hid (HB2.out.trans (b3.mono HB2.out.size))
  have K0 := Lib.hid ((b3.cell (cell_lt k0.out)).trans k0.out)
  have K5 := Lib.hid ((b3.cell (cell_lt k5.out)).trans k5.out)
  clear b3 C2 k0 k5
  go_wp2_with fail
  refine (C3.out _ _ _ HB3.out K0.out K5.out).mono ?_
  rintro e w4 ⟨rfl, b4⟩
  have HB4 := Lib.hid (HB3.out.trans (b4.mono HB3.out.size))
  have q6 := HD.out _ HB4.out
  clear b4 C3 K0 K5 HD
  go_wp2
  go_ret2
  exact ⟨rfl, HB4.out⟩
set_option maxRecDepth 100000 in
set_option maxHeartbeats 1000000 in
theorem awake09_any (w : World) : Calls Tryz.prog 9 #[] w fun e w' => e = .returned (.bool true) ∧ Below w.heap.size w w' := by
  have C1 := Lib.hid named_any
  have C2 := Lib.hid check_own
  have C3 := Lib.hid (fun (A : Option Addr) (W : World) (hA : AtS (fun b => b < W.heap.size) W [tE] (.slice A 1 1)) => names_some lxE tP A 1 W hA fit_own (by decide +kernel) (by decide +kernel) tP rfl)
  unfold nodV nmP at C1 C2
  go_enter Tryz.func9, Tryz.ntmps9
  go_wp2_with fail
  refine (C1.out _).mono ?_
  rintro e w2 ⟨⟨A, rfl, hA⟩, b2⟩
  go_wp2_with fail
  refine (C2.out _ _ _ hA).mono ?_
  rintro e w3 ⟨rfl, b3⟩
  have HB3 := Lib.hid (b2.trans (b3.mono b2.size))
  clear b2 b3 hA
  go_wp2_with fail
  refine (C1.out _).mono ?_
  rintro e w4 ⟨⟨A', rfl, hA⟩, b4⟩
  have HB4 := Lib.hid (HB3.out.trans (b4.mono HB3.out.size))
  clear b4
  go_wp2_with fail
  refine (C3.out _ _ hA).mono ?_
  rintro e w5 ⟨⟨v, k, rfl, hk⟩, b5⟩
  have HB5 := Lib.hid (HB4.out.trans (b5.mono HB4.out.size))
  clear b5
  rw [show proN tP.kids = tP from rfl, ok_own, if_pos rfl] at hk
  obtain ⟨rfl, B, hB⟩ := hk
  obtain ⟨A5, c5, rfl, -⟩ := strS_of hB (by decide +kernel)
  rw [show (namL tP.kids).length = 0 by decide +kernel]
  clear hB C1 C2 C3 hA
  go_wp2
  go_ret
  exact ⟨rfl, HB5.out⟩
end Go.Proofs.YtjbofhaiephedaaGreat
