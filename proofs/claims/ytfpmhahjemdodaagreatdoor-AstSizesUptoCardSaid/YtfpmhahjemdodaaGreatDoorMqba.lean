/-
  The printer's nodes, at the law's own tree. The printer's lists and parentheses, at the law's own tree.
-/
import Derived.Test.YtfpmhahjemdodaaGreatDoorMqaz
import Derived.StillTailTactics
namespace Go.Proofs.YtfpmhahjemdodaaGreatDoor
open Go.RowKit Go.Shelf
attribute [local go_sem] stFl hmf
theorem new2 (W : World) (A : Obj) (c : Array Value) (t : TypeId) : ((W.alloc A).alloc (.cells c t)).heap[W.heap.size + 1]? = some (.cells c t (0, 0)) := by
  have e : (W.alloc A).heap.size = W.heap.size + 1 := by simp
  rw [← e]
  exact heap_alloc_last (W.alloc A) _
abbrev pG (g : Nat) : Value := .pointer (some ⟨g, 0, none⟩)
abbrev cN (k : Int) (op st : ByteArray) (nm : Nat) (fl : Bool) (s : Value) (ps : Int) : Array Value := #[.int .i64 k, .string op, .string st, .float .f64 nm, .bool fl, s, .int .i64 ps]
/-- The law's own tree and the printer's table, as they lie. -/
structure Fx (W0 : World) (g bE bC bF : Nat) (S : ByteArray) : Prop where
  e : bE < g
  c : bC < g
  f : bF < g
  eb : W0.heap[bE]? = some (.cells #[.int .i64 47, .string ⟨#[]⟩, .string ⟨#[]⟩, .float .f64 0, .bool false, .slice (some ⟨bC, 0, none⟩) 1 1, .int .i64 0] 25 (0, 0))
  cb : W0.heap[bC]? = some (.cells #[.int .i64 17, .string ⟨#[]⟩, .string ⟨#[]⟩, .float .f64 0, .bool false, .slice (some ⟨bF, 0, none⟩) 2 2, .int .i64 0] 25 (0, 0))
  fb : W0.heap[bF]? = some (.cells #[.int .i64 2, .string ⟨#[]⟩, .string S, .float .f64 0, .bool false, .slice none 0 0, .int .i64 0, .int .i64 5, .string ⟨#[]⟩, .string ⟨#[]⟩, .float .f64 4607182418800017408, .bool false, .slice none 0 0, .int .i64 0] 25 (0, 0))
  t : ∃ cs, W0.heap[g + 1]? = some (.cells cs 44 (0, 0)) ∧ ∀ e ∈ [(47, pF g 66), (40, pF g 60), (17, pF g 53), (5, pF g 41), (2, pF g 38)], cs[e.1]? = some e.2
theorem PS.blk {W0 W : World} {g k : Nat} {bs : List Value} (h : PS W0 g bs W) (hk : k < g + 2) (hn : k ≠ g) : W.heap[k]? = W0.heap[k]? := h.k.block k hk hn
theorem PS.drewN {W0 W : World} {g : Nat} {bs : List Value} (h : PS W0 g bs W) (n : Nat) : PS W0 g bs (W.drewN n) :=
  ⟨⟨h.p.lt, h.p.le, h.p.h⟩, ⟨h.k.os, h.k.tape, h.k.output, h.k.size, h.k.block, h.k.oth⟩⟩
theorem Kb.drewN {B g : Nat} {w W : World} (h : Kb B g w W) (n : Nat) : Kb B g w (W.drewN n) := ⟨h.os, h.tape, h.output, h.size, h.block, h.oth⟩
theorem PS.tab {W0 W : World} {g bE bC bF : Nat} {S : ByteArray} {bs : List Value} (h : PS W0 g bs W) (fx : Fx W0 g bE bC bF S) {k F : Nat} (hm : (k, pF g F) ∈ [(47, pF g 66), (40, pF g 60), (17, pF g 53), (5, pF g 41), (2, pF g 38)]) : W.cell? ⟨g + 1, k, none⟩ = some (pF g F) := by
  obtain ⟨cs, h1, h2⟩ := fx.t
  have h3 : W.heap[g + 1]? = some (.cells cs 44 (0, 0)) := (h.blk (by omega) (by omega)).trans h1
  exact (cell_of_row W (g + 1) k _ _ _ h3).trans (h2 _ hm)
theorem PS.prc {W0 W : World} {g : Nat} {bs : List Value} (h : PS W0 g bs W) : W.cell? ⟨g, 2, none⟩ = some (.bool false) ∧ W.cell? ⟨g, 3, none⟩ = some (.bool false) ∧ W.frozen? ⟨g, 3, none⟩ = false ∧ W.cell? ⟨g, 4, none⟩ = some (.slice (some ⟨g + 1, 0, none⟩) 63 63) :=
  ⟨h.p.cells.2.1, h.p.cells.2.2.2.1, h.p.cells.2.2.2.2.1, h.p.cells.2.2.2.2.2⟩
theorem cells7 {W : World} {b : Nat} {k : Int} {op st : ByteArray} {nm : Nat} {fl : Bool} {s : Value} {ps : Int} (h : W.heap[b]? = some (.cells #[.int .i64 k, .string op, .string st, .float .f64 nm, .bool fl, s, .int .i64 ps] 25 (0, 0))) :
    W.cell? ⟨b, 0, none⟩ = some (.int .i64 k) ∧ W.cell? ⟨b, 1, none⟩ = some (.string op) ∧ W.cell? ⟨b, 2, none⟩ = some (.string st) ∧ W.cell? ⟨b, 3, none⟩ = some (.float .f64 nm) ∧ W.cell? ⟨b, 4, none⟩ = some (.bool fl) ∧ W.cell? ⟨b, 5, none⟩ = some s ∧ W.cell? ⟨b, 6, none⟩ = some (.int .i64 ps) :=
  ⟨(cell_of_row W b 0 _ _ _ h).trans rfl, (cell_of_row W b 1 _ _ _ h).trans rfl, (cell_of_row W b 2 _ _ _ h).trans rfl, (cell_of_row W b 3 _ _ _ h).trans rfl, (cell_of_row W b 4 _ _ _ h).trans rfl, (cell_of_row W b 5 _ _ _ h).trans rfl, (cell_of_row W b 6 _ _ _ h).trans rfl⟩
set_option maxRecDepth 100000 in
set_option maxHeartbeats 2000000 in
theorem node_47 {W0 : World} {g bE bC bF : Nat} {S : ByteArray} {bs bs' : List Value} (op st : ByteArray) (nm : Nat) (fl : Bool) (s : Value) (ps : Int) {w : World} (fx : Fx W0 g bE bC bF S) (h : PS W0 g bs w)
    (hf : ∀ W, PS W0 g bs W → Calls Tryz.prog 66 #[.pointer (some ⟨g, 0, none⟩), .agg #[.int .i64 47, .string op, .string st, .float .f64 nm, .bool fl, s, .int .i64 ps]] W fun e w' => e = .returned (.tuple #[]) ∧ PS W0 g bs' w' ∧ Kb (g + 2) g W w') :
    Calls Tryz.prog 18 #[.pointer (some ⟨g, 0, none⟩), .agg #[.int .i64 47, .string op, .string st, .float .f64 nm, .bool fl, s, .int .i64 ps]] w fun e w' => e = .returned (.tuple #[]) ∧ PS W0 g bs' w' ∧ Kb (g + 2) g w w' := by
  have C := Lib.hid hf
  clear hf
  go_enter Tryz.func18, Tryz.ntmps18
  go_upto_region 1 with fail
  obtain ⟨W1, hW1⟩ : ∃ W1, w.alloc (.cells #[.int .i64 47, .string op, .string st, .float .f64 nm, .bool fl, s, .int .i64 ps] 25) = W1 := ⟨_, rfl⟩
  have hb : Below w.heap.size w W1 := by rw [← hW1]; exact b1 _
  have n1 : W1.heap[w.heap.size]? = some (.cells #[.int .i64 47, .string op, .string st, .float .f64 nm, .bool fl, s, .int .i64 ps] 25 (0, 0)) := by rw [← hW1]; exact new1 w _ _
  have h1 := h.on hb
  have H1 := Lib.hid h1
  have K1 := Lib.hid (h.kb hb)
  obtain ⟨p2, p3, -, p4⟩ := h1.prc
  have pt := h1.tab fx (k := 47) (F := 66) (by simp)
  obtain ⟨c0, c1, c2, c3, c4, c5, c6⟩ := cells7 n1
  unfold pF at pt
  rw [hW1]
  clear hW1 hb h h1 n1 p3
  go_upto_region 2 with fail
  refine wp_region_still_tail 9 (by kernel_rfl) (by kernel_rfl) ?_
  simp only [List.take_succ_cons, List.take_zero, List.drop_succ_cons, List.drop_zero]
  repeat still_step
  refine wpStill_nil ?_
  go_wp2_with fail
  refine (C.out _ (H1.out.drewN 1)).mono ?_
  rintro e w4 ⟨rfl, h4, k4⟩
  have H4 := Lib.hid h4
  have K4 := Lib.hid ((K1.out.drewN 1).trans k4)
  clear C h4 k4 H1 K1 c0 c1 c2 c3 c4 c5 c6 p2 p4 pt
  go_wp2
  go_end0
  exact ⟨rfl, H4.out, K4.out⟩
set_option maxRecDepth 100000 in
set_option maxHeartbeats 2000000 in
theorem node_40 {W0 : World} {g bE bC bF : Nat} {S : ByteArray} {bs bs' : List Value} (op st : ByteArray) (nm : Nat) (fl : Bool) (s : Value) (ps : Int) {w : World} (fx : Fx W0 g bE bC bF S) (h : PS W0 g bs w)
    (hf : ∀ W, PS W0 g bs W → Calls Tryz.prog 60 #[.pointer (some ⟨g, 0, none⟩), .agg #[.int .i64 40, .string op, .string st, .float .f64 nm, .bool fl, s, .int .i64 ps]] W fun e w' => e = .returned (.tuple #[]) ∧ PS W0 g bs' w' ∧ Kb (g + 2) g W w') :
    Calls Tryz.prog 18 #[.pointer (some ⟨g, 0, none⟩), .agg #[.int .i64 40, .string op, .string st, .float .f64 nm, .bool fl, s, .int .i64 ps]] w fun e w' => e = .returned (.tuple #[]) ∧ PS W0 g bs' w' ∧ Kb (g + 2) g w w' := by
  have C := Lib.hid hf
  clear hf
  go_enter Tryz.func18, Tryz.ntmps18
  go_upto_region 1 with fail
  obtain ⟨W1, hW1⟩ : ∃ W1, w.alloc (.cells #[.int .i64 40, .string op, .string st, .float .f64 nm, .bool fl, s, .int .i64 ps] 25) = W1 := ⟨_, rfl⟩
  have hb : Below w.heap.size w W1 := by rw [← hW1]; exact b1 _
  have n1 : W1.heap[w.heap.size]? = some (.cells #[.int .i64 40, .string op, .string st, .float .f64 nm, .bool fl, s, .int .i64 ps] 25 (0, 0)) := by rw [← hW1]; exact new1 w _ _
  have h1 := h.on hb
  have H1 := Lib.hid h1
  have K1 := Lib.hid (h.kb hb)
  obtain ⟨p2, p3, -, p4⟩ := h1.prc
  have pt := h1.tab fx (k := 40) (F := 60) (by simp)
  obtain ⟨c0, c1, c2, c3, c4, c5, c6⟩ := cells7 n1
  unfold pF at pt
  rw [hW1]
  clear hW1 hb h h1 n1 p3
  go_upto_region 2 with fail
  refine wp_region_still_tail 9 (by kernel_rfl) (by kernel_rfl) ?_
  simp only [List.take_succ_cons, List.take_zero, List.drop_succ_cons, List.drop_zero]
  repeat still_step
  refine wpStill_nil ?_
  go_wp2_with fail
  refine (C.out _ (H1.out.drewN 1)).mono ?_
  rintro e w4 ⟨rfl, h4, k4⟩
  have H4 := Lib.hid h4
  have K4 := Lib.hid ((K1.out.drewN 1).trans k4)
  clear C h4 k4 H1 K1 c0 c1 c2 c3 c4 c5 c6 p2 p4 pt
  go_wp2
  go_end0
  exact ⟨rfl, H4.out, K4.out⟩
set_option maxRecDepth 100000 in
set_option maxHeartbeats 2000000 in
theorem node_17 {W0 : World} {g bE bC bF : Nat} {S : ByteArray} {bs bs' : List Value} (op st : ByteArray) (nm : Nat) (fl : Bool) (s : Value) (ps : Int) {w : World} (fx : Fx W0 g bE bC bF S) (h : PS W0 g bs w)
    (hf : ∀ W, PS W0 g bs W → Calls Tryz.prog 53 #[.pointer (some ⟨g, 0, none⟩), .agg #[.int .i64 17, .string op, .string st, .float .f64 nm, .bool fl, s, .int .i64 ps]] W fun e w' => e = .returned (.tuple #[]) ∧ PS W0 g bs' w' ∧ Kb (g + 2) g W w') :
    Calls Tryz.prog 18 #[.pointer (some ⟨g, 0, none⟩), .agg #[.int .i64 17, .string op, .string st, .float .f64 nm, .bool fl, s, .int .i64 ps]] w fun e w' => e = .returned (.tuple #[]) ∧ PS W0 g bs' w' ∧ Kb (g + 2) g w w' := by
  have C := Lib.hid hf
  clear hf
  go_enter Tryz.func18, Tryz.ntmps18
  go_upto_region 1 with fail
  obtain ⟨W1, hW1⟩ : ∃ W1, w.alloc (.cells #[.int .i64 17, .string op, .string st, .float .f64 nm, .bool fl, s, .int .i64 ps] 25) = W1 := ⟨_, rfl⟩
  have hb : Below w.heap.size w W1 := by rw [← hW1]; exact b1 _
  have n1 : W1.heap[w.heap.size]? = some (.cells #[.int .i64 17, .string op, .string st, .float .f64 nm, .bool fl, s, .int .i64 ps] 25 (0, 0)) := by rw [← hW1]; exact new1 w _ _
  have h1 := h.on hb
  have H1 := Lib.hid h1
  have K1 := Lib.hid (h.kb hb)
  obtain ⟨p2, p3, -, p4⟩ := h1.prc
  have pt := h1.tab fx (k := 17) (F := 53) (by simp)
  obtain ⟨c0, c1, c2, c3, c4, c5, c6⟩ := cells7 n1
  unfold pF at pt
  rw [hW1]
  clear hW1 hb h h1 n1 p3
  go_upto_region 2 with fail
  refine wp_region_still_tail 9 (by kernel_rfl) (by kernel_rfl) ?_
  simp only [List.take_succ_cons, List.take_zero, List.drop_succ_cons, List.drop_zero]
  repeat still_step
  refine wpStill_nil ?_
  go_wp2_with fail
  refine (C.out _ (H1.out.drewN 1)).mono ?_
  rintro e w4 ⟨rfl, h4, k4⟩
  have H4 := Lib.hid h4
  have K4 := Lib.hid ((K1.out.drewN 1).trans k4)
  clear C h4 k4 H1 K1 c0 c1 c2 c3 c4 c5 c6 p2 p4 pt
  go_wp2
  go_end0
  exact ⟨rfl, H4.out, K4.out⟩
set_option maxRecDepth 100000 in
set_option maxHeartbeats 2000000 in
theorem node_5 {W0 : World} {g bE bC bF : Nat} {S : ByteArray} {bs bs' : List Value} (op st : ByteArray) (nm : Nat) (fl : Bool) (s : Value) (ps : Int) {w : World} (fx : Fx W0 g bE bC bF S) (h : PS W0 g bs w)
    (hf : ∀ W, PS W0 g bs W → Calls Tryz.prog 41 #[.pointer (some ⟨g, 0, none⟩), .agg #[.int .i64 5, .string op, .string st, .float .f64 nm, .bool fl, s, .int .i64 ps]] W fun e w' => e = .returned (.tuple #[]) ∧ PS W0 g bs' w' ∧ Kb (g + 2) g W w') :
    Calls Tryz.prog 18 #[.pointer (some ⟨g, 0, none⟩), .agg #[.int .i64 5, .string op, .string st, .float .f64 nm, .bool fl, s, .int .i64 ps]] w fun e w' => e = .returned (.tuple #[]) ∧ PS W0 g bs' w' ∧ Kb (g + 2) g w w' := by
  have C := Lib.hid hf
  clear hf
  go_enter Tryz.func18, Tryz.ntmps18
  go_upto_region 1 with fail
  obtain ⟨W1, hW1⟩ : ∃ W1, w.alloc (.cells #[.int .i64 5, .string op, .string st, .float .f64 nm, .bool fl, s, .int .i64 ps] 25) = W1 := ⟨_, rfl⟩
  have hb : Below w.heap.size w W1 := by rw [← hW1]; exact b1 _
  have n1 : W1.heap[w.heap.size]? = some (.cells #[.int .i64 5, .string op, .string st, .float .f64 nm, .bool fl, s, .int .i64 ps] 25 (0, 0)) := by rw [← hW1]; exact new1 w _ _
  have h1 := h.on hb
  have H1 := Lib.hid h1
  have K1 := Lib.hid (h.kb hb)
  obtain ⟨p2, p3, -, p4⟩ := h1.prc
  have pt := h1.tab fx (k := 5) (F := 41) (by simp)
  obtain ⟨c0, c1, c2, c3, c4, c5, c6⟩ := cells7 n1
  unfold pF at pt
  rw [hW1]
  clear hW1 hb h h1 n1 p3
  go_upto_region 2 with fail
  refine wp_region_still_tail 9 (by kernel_rfl) (by kernel_rfl) ?_
  simp only [List.take_succ_cons, List.take_zero, List.drop_succ_cons, List.drop_zero]
  repeat still_step
  refine wpStill_nil ?_
  go_wp2_with fail
  refine (C.out _ (H1.out.drewN 1)).mono ?_
  rintro e w4 ⟨rfl, h4, k4⟩
  have H4 := Lib.hid h4
  have K4 := Lib.hid ((K1.out.drewN 1).trans k4)
  clear C h4 k4 H1 K1 c0 c1 c2 c3 c4 c5 c6 p2 p4 pt
  go_wp2
  go_end0
  exact ⟨rfl, H4.out, K4.out⟩
set_option maxRecDepth 100000 in
set_option maxHeartbeats 2000000 in
theorem node_2 {W0 : World} {g bE bC bF : Nat} {S : ByteArray} {bs bs' : List Value} (op st : ByteArray) (nm : Nat) (fl : Bool) (s : Value) (ps : Int) {w : World} (fx : Fx W0 g bE bC bF S) (h : PS W0 g bs w)
    (hf : ∀ W, PS W0 g bs W → Calls Tryz.prog 38 #[.pointer (some ⟨g, 0, none⟩), .agg #[.int .i64 2, .string op, .string st, .float .f64 nm, .bool fl, s, .int .i64 ps]] W fun e w' => e = .returned (.tuple #[]) ∧ PS W0 g bs' w' ∧ Kb (g + 2) g W w') :
    Calls Tryz.prog 18 #[.pointer (some ⟨g, 0, none⟩), .agg #[.int .i64 2, .string op, .string st, .float .f64 nm, .bool fl, s, .int .i64 ps]] w fun e w' => e = .returned (.tuple #[]) ∧ PS W0 g bs' w' ∧ Kb (g + 2) g w w' := by
  have C := Lib.hid hf
  clear hf
  go_enter Tryz.func18, Tryz.ntmps18
  go_upto_region 1 with fail
  obtain ⟨W1, hW1⟩ : ∃ W1, w.alloc (.cells #[.int .i64 2, .string op, .string st, .float .f64 nm, .bool fl, s, .int .i64 ps] 25) = W1 := ⟨_, rfl⟩
  have hb : Below w.heap.size w W1 := by rw [← hW1]; exact b1 _
  have n1 : W1.heap[w.heap.size]? = some (.cells #[.int .i64 2, .string op, .string st, .float .f64 nm, .bool fl, s, .int .i64 ps] 25 (0, 0)) := by rw [← hW1]; exact new1 w _ _
  have h1 := h.on hb
  have H1 := Lib.hid h1
  have K1 := Lib.hid (h.kb hb)
  obtain ⟨p2, p3, -, p4⟩ := h1.prc
  have pt := h1.tab fx (k := 2) (F := 38) (by simp)
  obtain ⟨c0, c1, c2, c3, c4, c5, c6⟩ := cells7 n1
  unfold pF at pt
  rw [hW1]
  clear hW1 hb h h1 n1 p3
  go_upto_region 2 with fail
  refine wp_region_still_tail 9 (by kernel_rfl) (by kernel_rfl) ?_
  simp only [List.take_succ_cons, List.take_zero, List.drop_succ_cons, List.drop_zero]
  repeat still_step
  refine wpStill_nil ?_
  go_wp2_with fail
  refine (C.out _ (H1.out.drewN 1)).mono ?_
  rintro e w4 ⟨rfl, h4, k4⟩
  have H4 := Lib.hid h4
  have K4 := Lib.hid ((K1.out.drewN 1).trans k4)
  clear C h4 k4 H1 K1 c0 c1 c2 c3 c4 c5 c6 p2 p4 pt
  go_wp2
  go_end0
  exact ⟨rfl, H4.out, K4.out⟩
set_option maxRecDepth 100000 in
set_option maxHeartbeats 2000000 in
theorem at_17 {W0 : World} {g : Nat} {bs bs' : List Value} (op st : ByteArray) (nm : Nat) (fl : Bool) (s : Value) (ps : Int) {w : World} (h : PS W0 g bs w)
    (hf : ∀ W, PS W0 g bs W → Calls Tryz.prog 18 #[.pointer (some ⟨g, 0, none⟩), .agg #[.int .i64 17, .string op, .string st, .float .f64 nm, .bool fl, s, .int .i64 ps]] W fun e w' => e = .returned (.tuple #[]) ∧ PS W0 g bs' w' ∧ Kb (g + 2) g W w') :
    Calls Tryz.prog 118 #[.pointer (some ⟨g, 0, none⟩), .agg #[.int .i64 17, .string op, .string st, .float .f64 nm, .bool fl, s, .int .i64 ps], .int .i64 0] w fun e w' => e = .returned (.tuple #[]) ∧ PS W0 g bs' w' ∧ Kb (g + 2) g w w' := by
  have C := Lib.hid hf
  have CR := Lib.hid (fun W => reaches_17 op st nm fl s ps W)
  clear hf
  go_enter Tryz.func118, Tryz.ntmps118
  go_upto_region 1 with fail
  obtain ⟨W1, hW1⟩ : ∃ W1, (w.alloc (.cells #[.pointer (some ⟨g, 0, none⟩)] 42)).alloc (.cells #[.int .i64 17, .string op, .string st, .float .f64 nm, .bool fl, s, .int .i64 ps] 25) = W1 := ⟨_, rfl⟩
  have hb : Below w.heap.size w W1 := by rw [← hW1]; exact (b1 _).alloc (by simp) _
  have n0 : W1.heap[w.heap.size]? = some (.cells #[.pointer (some ⟨g, 0, none⟩)] 42 (0, 0)) := by rw [← hW1]; exact ((b1 _).block _ (by simp)).trans (new1 w _ _)
  have n1 : W1.heap[w.heap.size + 1]? = some (.cells #[.int .i64 17, .string op, .string st, .float .f64 nm, .bool fl, s, .int .i64 ps] 25 (0, 0)) := by rw [← hW1]; exact new2 w _ _ _
  have sz : W1.heap.size = w.heap.size + 2 := by rw [← hW1]; simp
  have H1 := Lib.hid (h.on hb)
  have K1 := Lib.hid (h.kb hb)
  have N0 := Lib.hid n0
  have N1 := Lib.hid n1
  have SZ := Lib.hid sz
  obtain ⟨c0, c1, c2, c3, c4, c5, c6⟩ := cells7 n1
  rw [hW1]
  clear hW1 hb h n0 n1 sz
  go_wp2_with fail
  refine (CR.out _).mono ?_
  rintro e w2 ⟨rfl, b2⟩
  have h2 := H1.out.on b2
  have H2 := Lib.hid h2
  have K2 := Lib.hid (K1.out.trans (H1.out.kb b2))
  have m0 : w2.cell? ⟨w.heap.size, 0, none⟩ = some (.pointer (some ⟨g, 0, none⟩)) := (cell_of_row w2 _ 0 _ _ _ ((b2.block _ (by have := SZ.out; omega)).trans N0.out)).trans rfl
  have m1 := (b2.block (w.heap.size + 1) (by have := SZ.out; omega)).trans N1.out
  obtain ⟨p2, p3, -, p4⟩ := h2.prc
  clear b2 H1 K1 CR c0 c1 c2 c3 c4 c5 c6 N0 N1 SZ h2
  obtain ⟨c0, c1, c2, c3, c4, c5, c6⟩ := cells7 m1
  clear m1 p2 p4
  go_wp2_with fail
  refine (C.out _ H2.out).mono ?_
  rintro e w4 ⟨rfl, h4, k4⟩
  have H4 := Lib.hid h4
  have K4 := Lib.hid (K2.out.trans k4)
  clear C h4 k4 H2 K2 c0 c1 c2 c3 c4 c5 c6 m0 p3
  go_wp2
  exact bodyPost_ret (v := .tuple #[]) (by simp [results, Tryz.results118, go_sem]) rfl ⟨rfl, H4.out, K4.out⟩
set_option maxRecDepth 100000 in
set_option maxHeartbeats 2000000 in
theorem at_2 {W0 : World} {g : Nat} {bs bs' : List Value} (op st : ByteArray) (nm : Nat) (fl : Bool) (s : Value) (ps : Int) {w : World} (h : PS W0 g bs w)
    (hf : ∀ W, PS W0 g bs W → Calls Tryz.prog 18 #[.pointer (some ⟨g, 0, none⟩), .agg #[.int .i64 2, .string op, .string st, .float .f64 nm, .bool fl, s, .int .i64 ps]] W fun e w' => e = .returned (.tuple #[]) ∧ PS W0 g bs' w' ∧ Kb (g + 2) g W w') :
    Calls Tryz.prog 118 #[.pointer (some ⟨g, 0, none⟩), .agg #[.int .i64 2, .string op, .string st, .float .f64 nm, .bool fl, s, .int .i64 ps], .int .i64 15] w fun e w' => e = .returned (.tuple #[]) ∧ PS W0 g bs' w' ∧ Kb (g + 2) g w w' := by
  have C := Lib.hid hf
  have CR := Lib.hid (fun W => reaches_2 op st nm fl s ps W)
  clear hf
  go_enter Tryz.func118, Tryz.ntmps118
  go_upto_region 1 with fail
  obtain ⟨W1, hW1⟩ : ∃ W1, (w.alloc (.cells #[.pointer (some ⟨g, 0, none⟩)] 42)).alloc (.cells #[.int .i64 2, .string op, .string st, .float .f64 nm, .bool fl, s, .int .i64 ps] 25) = W1 := ⟨_, rfl⟩
  have hb : Below w.heap.size w W1 := by rw [← hW1]; exact (b1 _).alloc (by simp) _
  have n0 : W1.heap[w.heap.size]? = some (.cells #[.pointer (some ⟨g, 0, none⟩)] 42 (0, 0)) := by rw [← hW1]; exact ((b1 _).block _ (by simp)).trans (new1 w _ _)
  have n1 : W1.heap[w.heap.size + 1]? = some (.cells #[.int .i64 2, .string op, .string st, .float .f64 nm, .bool fl, s, .int .i64 ps] 25 (0, 0)) := by rw [← hW1]; exact new2 w _ _ _
  have sz : W1.heap.size = w.heap.size + 2 := by rw [← hW1]; simp
  have H1 := Lib.hid (h.on hb)
  have K1 := Lib.hid (h.kb hb)
  have N0 := Lib.hid n0
  have N1 := Lib.hid n1
  have SZ := Lib.hid sz
  obtain ⟨c0, c1, c2, c3, c4, c5, c6⟩ := cells7 n1
  rw [hW1]
  clear hW1 hb h n0 n1 sz
  go_wp2_with fail
  refine (CR.out _).mono ?_
  rintro e w2 ⟨rfl, b2⟩
  have h2 := H1.out.on b2
  have H2 := Lib.hid h2
  have K2 := Lib.hid (K1.out.trans (H1.out.kb b2))
  have m0 : w2.cell? ⟨w.heap.size, 0, none⟩ = some (.pointer (some ⟨g, 0, none⟩)) := (cell_of_row w2 _ 0 _ _ _ ((b2.block _ (by have := SZ.out; omega)).trans N0.out)).trans rfl
  have m1 := (b2.block (w.heap.size + 1) (by have := SZ.out; omega)).trans N1.out
  obtain ⟨p2, p3, -, p4⟩ := h2.prc
  clear b2 H1 K1 CR c0 c1 c2 c3 c4 c5 c6 N0 N1 SZ h2
  obtain ⟨c0, c1, c2, c3, c4, c5, c6⟩ := cells7 m1
  clear m1 p2 p4
  go_wp2_with fail
  refine (C.out _ H2.out).mono ?_
  rintro e w4 ⟨rfl, h4, k4⟩
  have H4 := Lib.hid h4
  have K4 := Lib.hid (K2.out.trans k4)
  clear C h4 k4 H2 K2 c0 c1 c2 c3 c4 c5 c6 m0 p3
  go_wp2
  exact bodyPost_ret (v := .tuple #[]) (by simp [results, Tryz.results118, go_sem]) rfl ⟨rfl, H4.out, K4.out⟩
set_option maxRecDepth 100000 in
set_option maxHeartbeats 2000000 in
theorem at_5 {W0 : World} {g : Nat} {bs bs' : List Value} (op st : ByteArray) (nm : Nat) (fl : Bool) (s : Value) (ps : Int) {w : World} (h : PS W0 g bs w)
    (hf : ∀ W, PS W0 g bs W → Calls Tryz.prog 18 #[.pointer (some ⟨g, 0, none⟩), .agg #[.int .i64 5, .string op, .string st, .float .f64 nm, .bool fl, s, .int .i64 ps]] W fun e w' => e = .returned (.tuple #[]) ∧ PS W0 g bs' w' ∧ Kb (g + 2) g W w') :
    Calls Tryz.prog 118 #[.pointer (some ⟨g, 0, none⟩), .agg #[.int .i64 5, .string op, .string st, .float .f64 nm, .bool fl, s, .int .i64 ps], .int .i64 1] w fun e w' => e = .returned (.tuple #[]) ∧ PS W0 g bs' w' ∧ Kb (g + 2) g w w' := by
  have C := Lib.hid hf
  have CR := Lib.hid (fun W => reaches_5 op st nm fl s ps W)
  clear hf
  go_enter Tryz.func118, Tryz.ntmps118
  go_upto_region 1 with fail
  obtain ⟨W1, hW1⟩ : ∃ W1, (w.alloc (.cells #[.pointer (some ⟨g, 0, none⟩)] 42)).alloc (.cells #[.int .i64 5, .string op, .string st, .float .f64 nm, .bool fl, s, .int .i64 ps] 25) = W1 := ⟨_, rfl⟩
  have hb : Below w.heap.size w W1 := by rw [← hW1]; exact (b1 _).alloc (by simp) _
  have n0 : W1.heap[w.heap.size]? = some (.cells #[.pointer (some ⟨g, 0, none⟩)] 42 (0, 0)) := by rw [← hW1]; exact ((b1 _).block _ (by simp)).trans (new1 w _ _)
  have n1 : W1.heap[w.heap.size + 1]? = some (.cells #[.int .i64 5, .string op, .string st, .float .f64 nm, .bool fl, s, .int .i64 ps] 25 (0, 0)) := by rw [← hW1]; exact new2 w _ _ _
  have sz : W1.heap.size = w.heap.size + 2 := by rw [← hW1]; simp
  have H1 := Lib.hid (h.on hb)
  have K1 := Lib.hid (h.kb hb)
  have N0 := Lib.hid n0
  have N1 := Lib.hid n1
  have SZ := Lib.hid sz
  obtain ⟨c0, c1, c2, c3, c4, c5, c6⟩ := cells7 n1
  rw [hW1]
  clear hW1 hb h n0 n1 sz
  go_wp2_with fail
  refine (CR.out _).mono ?_
  rintro e w2 ⟨rfl, b2⟩
  have h2 := H1.out.on b2
  have H2 := Lib.hid h2
  have K2 := Lib.hid (K1.out.trans (H1.out.kb b2))
  have m0 : w2.cell? ⟨w.heap.size, 0, none⟩ = some (.pointer (some ⟨g, 0, none⟩)) := (cell_of_row w2 _ 0 _ _ _ ((b2.block _ (by have := SZ.out; omega)).trans N0.out)).trans rfl
  have m1 := (b2.block (w.heap.size + 1) (by have := SZ.out; omega)).trans N1.out
  obtain ⟨p2, p3, -, p4⟩ := h2.prc
  clear b2 H1 K1 CR c0 c1 c2 c3 c4 c5 c6 N0 N1 SZ h2
  obtain ⟨c0, c1, c2, c3, c4, c5, c6⟩ := cells7 m1
  clear m1 p2 p4
  go_wp2_with fail
  refine (C.out _ H2.out).mono ?_
  rintro e w4 ⟨rfl, h4, k4⟩
  have H4 := Lib.hid h4
  have K4 := Lib.hid (K2.out.trans k4)
  clear C h4 k4 H2 K2 c0 c1 c2 c3 c4 c5 c6 m0 p3
  go_wp2
  exact bodyPost_ret (v := .tuple #[]) (by simp [results, Tryz.results118, go_sem]) rfl ⟨rfl, H4.out, K4.out⟩
end Go.Proofs.YtfpmhahjemdodaaGreatDoor
namespace Go.Proofs.YtfpmhahjemdodaaGreatDoor
open Go.RowKit Go.Shelf
attribute [local go_sem] stFl hmf
theorem PS.cf {W0 W : World} {g bE bC bF : Nat} {S : ByteArray} {bs : List Value} (h : PS W0 g bs W) (fx : Fx W0 g bE bC bF S) : W.heap[bF]? = some (.cells #[.int .i64 2, .string ⟨#[]⟩, .string S, .float .f64 0, .bool false, .slice none 0 0, .int .i64 0, .int .i64 5, .string ⟨#[]⟩, .string ⟨#[]⟩, .float .f64 4607182418800017408, .bool false, .slice none 0 0, .int .i64 0] 25 (0, 0)) := (h.blk (by have := fx.f; omega) (by have := fx.f; omega)).trans fx.fb
theorem PS.cc {W0 W : World} {g bE bC bF : Nat} {S : ByteArray} {bs : List Value} (h : PS W0 g bs W) (fx : Fx W0 g bE bC bF S) : W.heap[bC]? = some (.cells #[.int .i64 17, .string ⟨#[]⟩, .string ⟨#[]⟩, .float .f64 0, .bool false, .slice (some ⟨bF, 0, none⟩) 2 2, .int .i64 0] 25 (0, 0)) := (h.blk (by have := fx.c; omega) (by have := fx.c; omega)).trans fx.cb
theorem PS.ce {W0 W : World} {g bE bC bF : Nat} {S : ByteArray} {bs : List Value} (h : PS W0 g bs W) (fx : Fx W0 g bE bC bF S) : W.heap[bE]? = some (.cells #[.int .i64 47, .string ⟨#[]⟩, .string ⟨#[]⟩, .float .f64 0, .bool false, .slice (some ⟨bC, 0, none⟩) 1 1, .int .i64 0] 25 (0, 0)) := (h.blk (by have := fx.e; omega) (by have := fx.e; omega)).trans fx.eb
theorem cellsF {W : World} {b : Nat} {S : ByteArray} (h : W.heap[b]? = some (.cells #[.int .i64 2, .string ⟨#[]⟩, .string S, .float .f64 0, .bool false, .slice none 0 0, .int .i64 0, .int .i64 5, .string ⟨#[]⟩, .string ⟨#[]⟩, .float .f64 4607182418800017408, .bool false, .slice none 0 0, .int .i64 0] 25 (0, 0))) :
    (W.cell? ⟨b, 0, none⟩ = some (.int .i64 2) ∧ W.cell? ⟨b, 1, none⟩ = some (.string ⟨#[]⟩) ∧ W.cell? ⟨b, 2, none⟩ = some (.string S) ∧ W.cell? ⟨b, 3, none⟩ = some (.float .f64 0) ∧ W.cell? ⟨b, 4, none⟩ = some (.bool false) ∧ W.cell? ⟨b, 5, none⟩ = some (.slice none 0 0) ∧ W.cell? ⟨b, 6, none⟩ = some (.int .i64 0)) ∧
    (W.cell? ⟨b, 7, none⟩ = some (.int .i64 5) ∧ W.cell? ⟨b, 8, none⟩ = some (.string ⟨#[]⟩) ∧ W.cell? ⟨b, 9, none⟩ = some (.string ⟨#[]⟩) ∧ W.cell? ⟨b, 10, none⟩ = some (.float .f64 4607182418800017408) ∧ W.cell? ⟨b, 11, none⟩ = some (.bool false) ∧ W.cell? ⟨b, 12, none⟩ = some (.slice none 0 0) ∧ W.cell? ⟨b, 13, none⟩ = some (.int .i64 0)) :=
  ⟨⟨(cell_of_row W b 0 _ _ _ h).trans rfl, (cell_of_row W b 1 _ _ _ h).trans rfl, (cell_of_row W b 2 _ _ _ h).trans rfl, (cell_of_row W b 3 _ _ _ h).trans rfl, (cell_of_row W b 4 _ _ _ h).trans rfl, (cell_of_row W b 5 _ _ _ h).trans rfl, (cell_of_row W b 6 _ _ _ h).trans rfl⟩,
   ⟨(cell_of_row W b 7 _ _ _ h).trans rfl, (cell_of_row W b 8 _ _ _ h).trans rfl, (cell_of_row W b 9 _ _ _ h).trans rfl, (cell_of_row W b 10 _ _ _ h).trans rfl, (cell_of_row W b 11 _ _ _ h).trans rfl, (cell_of_row W b 12 _ _ _ h).trans rfl, (cell_of_row W b 13 _ _ _ h).trans rfl⟩⟩
abbrev n1V : Value := .agg #[.int .i64 5, .string ⟨#[]⟩, .string ⟨#[]⟩, .float .f64 4607182418800017408, .bool false, .slice none 0 0, .int .i64 0]
set_option maxRecDepth 100000 in
set_option maxHeartbeats 2000000 in
/-- The list of the one argument, 1. -/
theorem list_1 {W0 : World} {g bE bC bF : Nat} {S : ByteArray} {bs bs' : List Value} {w : World} (fx : Fx W0 g bE bC bF S) (h : PS W0 g bs w)
    (hf : ∀ W, PS W0 g bs W → Calls Tryz.prog 118 #[.pointer (some ⟨g, 0, none⟩), n1V, .int .i64 1] W fun e w' => e = .returned (.tuple #[]) ∧ PS W0 g bs' w' ∧ Kb (g + 2) g W w') :
    Calls Tryz.prog 116 #[.pointer (some ⟨g, 0, none⟩), .slice (some ⟨bF, 7, none⟩) 1 1] w fun e w' => e = .returned (.tuple #[]) ∧ PS W0 g bs' w' ∧ Kb (g + 2) g w w' := by
  have C := Lib.hid hf
  have HF := Lib.hid fx
  clear hf fx
  unfold n1V at C
  go_enter Tryz.func116, Tryz.ntmps116
  go_wp2
  go_loopw [8] (fun iv wr => (iv = .int .i64 0 ∧ wr = w) ∨ (iv = .int .i64 1 ∧ PS W0 g bs' wr ∧ Kb (g + 2) g w wr)) (fun iv _ => 1 - (intOf iv).toNat)
  case atStart => exact .inl ⟨rfl, rfl⟩
  case round =>
    rcases hrel with ⟨rfl, rfl⟩ | ⟨rfl, hp, hk⟩
    · have hcf := h.cf HF.out
      obtain ⟨-, c0, c1, c2, c3, c4, c5, c6⟩ := cellsF hcf
      have HP := Lib.hid h
      clear h hcf
      go_upto_region 3 with fail
      obtain ⟨W1, hW1⟩ : ∃ W1, wr.alloc (.cells #[.int .i64 5, .string ⟨#[]⟩, .string ⟨#[]⟩, .float .f64 4607182418800017408, .bool false, .slice none 0 0, .int .i64 0] 25) = W1 := ⟨_, rfl⟩
      have hb : Below wr.heap.size wr W1 := by rw [← hW1]; exact b1 _
      have n1 : W1.heap[wr.heap.size]? = some (.cells #[.int .i64 5, .string ⟨#[]⟩, .string ⟨#[]⟩, .float .f64 4607182418800017408, .bool false, .slice none 0 0, .int .i64 0] 25 (0, 0)) := by rw [← hW1]; exact new1 wr _ _
      have H1 := Lib.hid (HP.out.on hb)
      have K1 := Lib.hid (HP.out.kb hb)
      clear c0 c1 c2 c3 c4 c5 c6
      obtain ⟨c0, c1, c2, c3, c4, c5, c6⟩ := cells7 n1
      rw [hW1]
      clear hW1 hb n1 HP
      go_wp2_with fail
      refine (C.out _ H1.out).mono ?_
      rintro e w4 ⟨rfl, h4, k4⟩
      have H4 := Lib.hid h4
      have K4 := Lib.hid (K1.out.trans k4)
      clear C h4 k4 H1 K1 c0 c1 c2 c3 c4 c5 c6
      go_wp2
      go_roundw
      case rel => exact .inr ⟨by go_num, H4.out, K4.out⟩
      case measure => simp [intOf]
    · have H4 := Lib.hid hp
      have K4 := Lib.hid hk
      clear hp hk C h
      go_wp2
      go_end0
      exact ⟨rfl, H4.out, K4.out⟩
set_option maxRecDepth 100000 in
set_option maxHeartbeats 2000000 in
/-- What stands between two signs. -/
theorem within_s {W0 : World} {g b1 b2 : Nat} {bs bs' : List Value} (l r : ByteArray) {w : World} (h : PS W0 g bs w) (hn : bs.length + l.size ≤ 2097152) (hn' : bs'.length + r.size ≤ 2097152)
    (hf : ∀ W, PS W0 g (bs ++ Lib.strCells l) W → Kb (g + 2) g w W → Calls Tryz.prog 170 #[.pointer (some ⟨b1, 0, none⟩), .pointer (some ⟨b2, 0, none⟩)] W fun e w' => e = .returned (.tuple #[]) ∧ PS W0 g bs' w' ∧ Kb (g + 2) g W w') :
    Calls Tryz.prog 114 #[.pointer (some ⟨g, 0, none⟩), .string l, .string r, .func (.func 170) #[] #[.pointer (some ⟨b1, 0, none⟩), .pointer (some ⟨b2, 0, none⟩)]] w fun e w' => e = .returned (.tuple #[]) ∧ PS W0 g (bs' ++ Lib.strCells r) w' ∧ Kb (g + 2) g w w' := by
  have CF := Lib.hid hf
  have CL := Lib.hid (fun W (h : PS W0 g bs W) => write_s l h hn)
  have CR := Lib.hid (fun W (h : PS W0 g bs' W) => write_s r h hn')
  have ST := Lib.hid (fun (bs : List Value) W (h : PS W0 g bs W) => h.p.set false false 3 (.inr ⟨rfl, rfl⟩))
  have H := Lib.hid h
  obtain ⟨p2, p3, f3, p4⟩ := h.prc
  clear hf hn hn' h
  go_enter Tryz.func114, Tryz.ntmps114
  go_upto_region 2 with fail
  obtain ⟨W1, hW1⟩ : ∃ W1, w.setCell ⟨g, 3, none⟩ (.bool false) = W1 := ⟨_, rfl⟩
  have hs := ST.out bs w H.out
  have H1 : Hid (PS W0 g bs W1) := Lib.hid (by rw [← hW1]; exact ⟨hs.1, H.out.k.trans hs.2⟩)
  have K1 : Hid (Kb (g + 2) g w W1) := Lib.hid (by rw [← hW1]; exact hs.2)
  rw [hW1]
  clear hW1 hs p2 p3 f3 p4 H
  go_wp2_with fail
  refine (CL.out _ H1.out).mono ?_
  rintro e w2 ⟨rfl, h2, k2⟩
  have H2 := Lib.hid h2
  have K2 := Lib.hid (K1.out.trans k2)
  clear CL h2 k2 H1 K1
  go_wp2_with fail
  refine (CF.out _ H2.out K2.out).mono ?_
  rintro e w3 ⟨rfl, h3, k3⟩
  have H3 := Lib.hid h3
  have K3 := Lib.hid (K2.out.trans k3)
  clear CF h3 k3 H2 K2
  go_wp2_with fail
  refine (CR.out _ H3.out).mono ?_
  rintro e w4 ⟨rfl, h4, k4⟩
  have hs := ST.out _ w4 h4
  have H5 := Lib.hid (show PS W0 g (bs' ++ Lib.strCells r) _ from ⟨hs.1, h4.k.trans hs.2⟩)
  have K5 := Lib.hid ((K3.out.trans k4).trans hs.2)
  obtain ⟨p2, p3, f3, p4⟩ := h4.prc
  clear CR h4 k4 H3 K3 hs ST
  go_wp2
  go_end0
  exact ⟨rfl, H5.out, K5.out⟩
end Go.Proofs.YtfpmhahjemdodaaGreatDoor
