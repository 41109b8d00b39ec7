/-
  The reference's Change of descriptors.
-/
import Derived.Test.YtlkgijinckhkkaaF7
namespace Go.Proofs.Ytlkgijinckhkkaa
open Go.RowKit
attribute [local go_sem] stF
def stp (h : Bool) (f : Prp → Prp) (r : Prp) : Prp := if h = true then f r else r
/-- What is changed by a descriptor of the other sort. -/
def kindP (p q : Prp) : Prp := if ((hasB q.ph 6 || hasB q.ph 9) && (hasB q.ph 6 != hasB p.ph 6)) = true then { zPrp with ph := if hasB q.ph 6 = true then 54 else 57, pe := p.pe, pc := p.pc } else p
def chgP (p q : Prp) : Prp :=
  stp (hasB q.ph 32) (fun r => { r with pc := q.pc }) (stp (hasB q.ph 16) (fun r => { r with pe := q.pe }) (stp (hasB q.ph 8) (fun r => { r with pw := q.pw })
    (stp (hasB q.ph 4) (fun r => { r with pt := q.pt }) (stp (hasB q.ph 2) (fun r => { r with pg := q.pg }) (stp (hasB q.ph 1) (fun r => { r with pv := q.pv }) (kindP p q))))))
def okP (p q : Prp) : Bool := p.pc || fixedB p q
def chgE (p q : Prp) : Ending := if okP p q = true then .returned (.tuple #[prpV (chgP p q), .bool true]) else .returned (.tuple #[prpV zPrp, .bool false])
/-- The blocks of Change: both parameters' and the answer's. -/
structure S3 (w W : World) (p q : Prp) : Prop where
  k : Blk W w.heap.size p
  k2 : Blk W (w.heap.size + 1) q
  kr : Blk W (w.heap.size + 2) zPrp
  l : w.heap.size + 2 < W.heap.size
  b : Below w.heap.size w W
theorem S3.new {w W1 W2 W3 : World} {p q : Prp} (h : w.alloc (.cells (celP p) 26) = W1) (g : W1.alloc (.cells (celP q) 26) = W2) (f : W2.alloc (.cells (celP zPrp) 26) = W3) : S3 w W3 p q := by
  have a := S2.new h g
  obtain ⟨_, _, c⟩ := blk_new h
  obtain ⟨_, _, c2⟩ := blk_new g
  obtain ⟨a3, b3, c3⟩ := blk_new f
  rw [c2, c] at a3
  exact ⟨a.k.below b3 (by omega), a.k2.below b3 (by omega), a3, by omega, below_le a.b b3⟩
theorem S3.step {w W W' : World} {p q : Prp} (h : S3 w W p q) (hb : Below W.heap.size W W') : S3 w W' p q :=
  ⟨h.k.below hb (by have := h.l; omega), h.k2.below hb (by have := h.l; omega), h.kr.below hb h.l, Nat.lt_of_lt_of_le h.l hb.size, below_le h.b hb⟩
theorem S3.cs {w W : World} {p q : Prp} (h : S3 w W p q) : W.cell? ⟨w.heap.size, 16, none⟩ = some (.bool p.pw) ∧ W.cell? ⟨w.heap.size, 17, none⟩ = some (.bool p.pe) ∧ W.cell? ⟨w.heap.size, 18, none⟩ = some (.bool p.pc) ∧
    W.cell? ⟨w.heap.size + 1, 16, none⟩ = some (.bool q.pw) ∧ W.cell? ⟨w.heap.size + 1, 17, none⟩ = some (.bool q.pe) ∧ W.cell? ⟨w.heap.size + 1, 18, none⟩ = some (.bool q.pc) :=
  ⟨h.k.cell rfl, h.k.cell rfl, h.k.cell rfl, h.k2.cell rfl, h.k2.cell rfl, h.k2.cell rfl⟩
/-- The same with the block of what comes to be. -/
structure SC (w W : World) (p q : Prp) (X : Nat) (r : Prp) : Prop where
  k : Blk W w.heap.size p
  k2 : Blk W (w.heap.size + 1) q
  kr : Blk W (w.heap.size + 2) zPrp
  ko : Blk W X r
  lx : w.heap.size + 2 < X
  l : X < W.heap.size
  b : Below w.heap.size w W
theorem SC.new {w W W' : World} {p q r : Prp} (h : S3 w W p q) (g : W.alloc (.cells (celP r) 26) = W') : SC w W' p q W.heap.size r := by
  obtain ⟨a, b, c⟩ := blk_new g
  have hl := h.l
  exact ⟨h.k.below b (by omega), h.k2.below b (by omega), h.kr.below b hl, a, hl, by omega, below_le h.b b⟩
theorem SC.step {w W W' : World} {p q r : Prp} {X : Nat} (h : SC w W p q X r) (hb : Below W.heap.size W W') : SC w W' p q X r := by
  have h1 := h.lx
  have h2 := h.l
  exact ⟨h.k.below hb (by omega), h.k2.below hb (by omega), h.kr.below hb (by omega), h.ko.below hb h.l, h.lx, Nat.lt_of_lt_of_le h.l hb.size, below_le h.b hb⟩
theorem SC.drew {w W : World} {p q r : Prp} {X : Nat} (h : SC w W p q X r) : SC w W.drew p q X r := ⟨h.k, h.k2, h.kr, h.ko, h.lx, h.l, below_drewN' h.b 1⟩
theorem SC.row {w W : World} {p q r : Prp} {X : Nat} (h : SC w W p q X r) (s : Prp) : SC w (W.setRow X (celP s)) p q X s := by
  have h1 := h.lx
  exact ⟨(setRow_other _ _ _ _ (by omega)).trans h.k, (setRow_other _ _ _ _ (by omega)).trans h.k2, (setRow_other _ _ _ _ (by omega)).trans h.kr, setRow_heap _ _ _ _ _ _ h.ko, h.lx, by rw [setRow_size]; exact h.l, below_setRowK h.b (by omega) _⟩
theorem SC.set {w W : World} {p q r s : Prp} {X i : Nat} {v : Value} (h : SC w W p q X r) (hs : Blk (W.setCell ⟨X, i, none⟩ v) X s) : SC w (W.setCell ⟨X, i, none⟩ v) p q X s := by
  have h1 := h.lx
  exact ⟨h.k.other (by omega), h.k2.other (by omega), h.kr.other (by omega), hs, h.lx, by rw [setCell_size]; exact h.l, h.b.setCell (by show w.heap.size ≤ X; omega) _⟩
theorem SC.cs {w W : World} {p q r : Prp} {X : Nat} (h : SC w W p q X r) : W.cell? ⟨w.heap.size, 17, none⟩ = some (.bool p.pe) ∧ W.cell? ⟨w.heap.size, 18, none⟩ = some (.bool p.pc) ∧
    W.cell? ⟨w.heap.size + 1, 16, none⟩ = some (.bool q.pw) ∧ W.cell? ⟨w.heap.size + 1, 17, none⟩ = some (.bool q.pe) ∧ W.cell? ⟨w.heap.size + 1, 18, none⟩ = some (.bool q.pc) :=
  ⟨h.k.cell rfl, h.k.cell rfl, h.k2.cell rfl, h.k2.cell rfl, h.k2.cell rfl⟩
theorem Blk.s_pw {w : World} {g : Nat} {r : Prp} (h : Blk w g r) (x : Bool) : Blk (w.setCell ⟨g, 16, none⟩ (.bool x)) g { r with pw := x } := by
  have := heap_setCell_same w g 16 _ _ (.bool x) h
  exact this
theorem Blk.s_pe {w : World} {g : Nat} {r : Prp} (h : Blk w g r) (x : Bool) : Blk (w.setCell ⟨g, 17, none⟩ (.bool x)) g { r with pe := x } := by
  have := heap_setCell_same w g 17 _ _ (.bool x) h
  exact this
theorem Blk.s_pc {w : World} {g : Nat} {r : Prp} (h : Blk w g r) (x : Bool) : Blk (w.setCell ⟨g, 18, none⟩ (.bool x)) g { r with pc := x } := by
  have := heap_setCell_same w g 18 _ _ (.bool x) h
  exact this
theorem Blk.s_pv0 {w : World} {g : Nat} {r : Prp} (h : Blk w g r) (x : Int) : Blk (w.setCell ⟨g, 1, none⟩ (.int .i64 x)) g { r with pv := { r.pv with vk := x } } := by
  have := heap_setCell_same w g 1 _ _ (.int .i64 x) h
  exact this
theorem Blk.s_pv1 {w : World} {g : Nat} {r : Prp} (h : Blk w g r) (x : Bool) : Blk (w.setCell ⟨g, 2, none⟩ (.bool x)) g { r with pv := { r.pv with vb := x } } := by
  have := heap_setCell_same w g 2 _ _ (.bool x) h
  exact this
theorem Blk.s_pv2 {w : World} {g : Nat} {r : Prp} (h : Blk w g r) (x : Nat) : Blk (w.setCell ⟨g, 3, none⟩ (.float .f64 x)) g { r with pv := { r.pv with vn := x } } := by
  have := heap_setCell_same w g 3 _ _ (.float .f64 x) h
  exact this
theorem Blk.s_pv3 {w : World} {g : Nat} {r : Prp} (h : Blk w g r) (x : ByteArray) : Blk (w.setCell ⟨g, 4, none⟩ (.string x)) g { r with pv := { r.pv with vs := x } } := by
  have := heap_setCell_same w g 4 _ _ (.string x) h
  exact this
theorem Blk.s_pv4 {w : World} {g : Nat} {r : Prp} (h : Blk w g r) (x : Int) : Blk (w.setCell ⟨g, 5, none⟩ (.int .i64 x)) g { r with pv := { r.pv with vo := x } } := by
  have := heap_setCell_same w g 5 _ _ (.int .i64 x) h
  exact this
theorem SC.s_pv {w W : World} {p q r : Prp} {X : Nat} (h : SC w W p q X r) (v : Val) : SC w (((((W.setCell ⟨X, 1, none⟩ (.int .i64 v.vk)).setCell ⟨X, 2, none⟩ (.bool v.vb)).setCell ⟨X, 3, none⟩ (.float .f64 v.vn)).setCell ⟨X, 4, none⟩ (.string v.vs)).setCell ⟨X, 5, none⟩ (.int .i64 v.vo)) p q X { r with pv := v } := by
  have h1 := h.set (h.ko.s_pv0 v.vk)
  have h2 := h1.set (h1.ko.s_pv1 v.vb)
  have h3 := h2.set (h2.ko.s_pv2 v.vn)
  have h4 := h3.set (h3.ko.s_pv3 v.vs)
  exact h4.set (h4.ko.s_pv4 v.vo)
theorem Blk.s_pg0 {w : World} {g : Nat} {r : Prp} (h : Blk w g r) (x : Int) : Blk (w.setCell ⟨g, 6, none⟩ (.int .i64 x)) g { r with pg := { r.pg with vk := x } } := by
  have := heap_setCell_same w g 6 _ _ (.int .i64 x) h
  exact this
theorem Blk.s_pg1 {w : World} {g : Nat} {r : Prp} (h : Blk w g r) (x : Bool) : Blk (w.setCell ⟨g, 7, none⟩ (.bool x)) g { r with pg := { r.pg with vb := x } } := by
  have := heap_setCell_same w g 7 _ _ (.bool x) h
  exact this
theorem Blk.s_pg2 {w : World} {g : Nat} {r : Prp} (h : Blk w g r) (x : Nat) : Blk (w.setCell ⟨g, 8, none⟩ (.float .f64 x)) g { r with pg := { r.pg with vn := x } } := by
  have := heap_setCell_same w g 8 _ _ (.float .f64 x) h
  exact this
theorem Blk.s_pg3 {w : World} {g : Nat} {r : Prp} (h : Blk w g r) (x : ByteArray) : Blk (w.setCell ⟨g, 9, none⟩ (.string x)) g { r with pg := { r.pg with vs := x } } := by
  have := heap_setCell_same w g 9 _ _ (.string x) h
  exact this
theorem Blk.s_pg4 {w : World} {g : Nat} {r : Prp} (h : Blk w g r) (x : Int) : Blk (w.setCell ⟨g, 10, none⟩ (.int .i64 x)) g { r with pg := { r.pg with vo := x } } := by
  have := heap_setCell_same w g 10 _ _ (.int .i64 x) h
  exact this
theorem SC.s_pg {w W : World} {p q r : Prp} {X : Nat} (h : SC w W p q X r) (v : Val) : SC w (((((W.setCell ⟨X, 6, none⟩ (.int .i64 v.vk)).setCell ⟨X, 7, none⟩ (.bool v.vb)).setCell ⟨X, 8, none⟩ (.float .f64 v.vn)).setCell ⟨X, 9, none⟩ (.string v.vs)).setCell ⟨X, 10, none⟩ (.int .i64 v.vo)) p q X { r with pg := v } := by
  have h1 := h.set (h.ko.s_pg0 v.vk)
  have h2 := h1.set (h1.ko.s_pg1 v.vb)
  have h3 := h2.set (h2.ko.s_pg2 v.vn)
  have h4 := h3.set (h3.ko.s_pg3 v.vs)
  exact h4.set (h4.ko.s_pg4 v.vo)
theorem Blk.s_pt0 {w : World} {g : Nat} {r : Prp} (h : Blk w g r) (x : Int) : Blk (w.setCell ⟨g, 11, none⟩ (.int .i64 x)) g { r with pt := { r.pt with vk := x } } := by
  have := heap_setCell_same w g 11 _ _ (.int .i64 x) h
  exact this
theorem Blk.s_pt1 {w : World} {g : Nat} {r : Prp} (h : Blk w g r) (x : Bool) : Blk (w.setCell ⟨g, 12, none⟩ (.bool x)) g { r with pt := { r.pt with vb := x } } := by
  have := heap_setCell_same w g 12 _ _ (.bool x) h
  exact this
theorem Blk.s_pt2 {w : World} {g : Nat} {r : Prp} (h : Blk w g r) (x : Nat) : Blk (w.setCell ⟨g, 13, none⟩ (.float .f64 x)) g { r with pt := { r.pt with vn := x } } := by
  have := heap_setCell_same w g 13 _ _ (.float .f64 x) h
  exact this
theorem Blk.s_pt3 {w : World} {g : Nat} {r : Prp} (h : Blk w g r) (x : ByteArray) : Blk (w.setCell ⟨g, 14, none⟩ (.string x)) g { r with pt := { r.pt with vs := x } } := by
  have := heap_setCell_same w g 14 _ _ (.string x) h
  exact this
theorem Blk.s_pt4 {w : World} {g : Nat} {r : Prp} (h : Blk w g r) (x : Int) : Blk (w.setCell ⟨g, 15, none⟩ (.int .i64 x)) g { r with pt := { r.pt with vo := x } } := by
  have := heap_setCell_same w g 15 _ _ (.int .i64 x) h
  exact this
theorem SC.s_pt {w W : World} {p q r : Prp} {X : Nat} (h : SC w W p q X r) (v : Val) : SC w (((((W.setCell ⟨X, 11, none⟩ (.int .i64 v.vk)).setCell ⟨X, 12, none⟩ (.bool v.vb)).setCell ⟨X, 13, none⟩ (.float .f64 v.vn)).setCell ⟨X, 14, none⟩ (.string v.vs)).setCell ⟨X, 15, none⟩ (.int .i64 v.vo)) p q X { r with pt := v } := by
  have h1 := h.set (h.ko.s_pt0 v.vk)
  have h2 := h1.set (h1.ko.s_pt1 v.vb)
  have h3 := h2.set (h2.ko.s_pt2 v.vn)
  have h4 := h3.set (h3.ko.s_pt3 v.vs)
  exact h4.set (h4.ko.s_pt4 v.vo)
theorem ldW {ops : Array Oper} {rest : List Oper} {o : Oper} {a : Act} {w : World} {Q : Exit → Act → World → Prop} {x : Operand} {g off k : Nat} {p : Prp} {v : Val} (hg : Blk w g p) (hd : o.dst = some k) (hv : (celP p).extract off (off + 5) = celV v) (hn : off + 5 ≤ 19) (hw : Region.wanted o (yielded ops a.tmps) = true) (ho : o.op = .load 24 x)
    (hx : a.eval x = .pointer (some ⟨g, off, none⟩)) (h : wpList Try.prog ops Q rest (a.put (some k) (.agg #[.int .i64 v.vk, .bool v.vb, .float .f64 v.vn, .string v.vs, .int .i64 v.vo])) w) : wpList Try.prog ops Q (o :: rest) a w :=
  ldV hg hd hv hn hw ho hx h
set_option maxRecDepth 100000 in
set_option maxHeartbeats 4000000 in
theorem hChange_any (p q : Prp) (w : World) (hp1 : p.pv.vn < 18446744073709551616) (hp2 : p.pg.vn < 18446744073709551616) (hp3 : p.pt.vn < 18446744073709551616) (hq1 : q.pv.vn < 18446744073709551616) (hq2 : q.pg.vn < 18446744073709551616) (hq3 : q.pt.vn < 18446744073709551616) :
    Calls Try.prog 19 #[prpV p, prpV q] w fun e w' => e = chgE p q ∧ Below w.heap.size w w' := by
  have C1 := fun W => hhas_any q 1 W
  have C2 := fun W => hhas_any q 2 W
  have C4 := fun W => hhas_any q 4 W
  have C8 := fun W => hhas_any q 8 W
  have C16 := fun W => hhas_any q 16 W
  have C32 := fun W => hhas_any q 32 W
  have CA := fun W => hAccessor_any q W
  have CD := fun W => hData_any q W
  have CB := fun W => hAccessor_any p W
  have CF := fun W => hfixed_any p q W hp1 hp2 hp3 hq1 hq2 hq3
  unfold chgE okP chgP kindP
  clear hp1 hp2 hp3 hq1 hq2 hq3
  obtain ⟨yc, e_yc⟩ : ∃ b, p.pc = b := ⟨_, rfl⟩
  obtain ⟨fx, e_fx⟩ : ∃ b, fixedB p q = b := ⟨_, rfl⟩
  obtain ⟨h1, e_h1⟩ : ∃ b, hasB q.ph 1 = b := ⟨_, rfl⟩
  obtain ⟨h2, e_h2⟩ : ∃ b, hasB q.ph 2 = b := ⟨_, rfl⟩
  obtain ⟨h4, e_h4⟩ : ∃ b, hasB q.ph 4 = b := ⟨_, rfl⟩
  obtain ⟨h8, e_h8⟩ : ∃ b, hasB q.ph 8 = b := ⟨_, rfl⟩
  obtain ⟨h16, e_h16⟩ : ∃ b, hasB q.ph 16 = b := ⟨_, rfl⟩
  obtain ⟨h32, e_h32⟩ : ∃ b, hasB q.ph 32 = b := ⟨_, rfl⟩
  obtain ⟨ha, e_ha⟩ : ∃ b, hasB q.ph 6 = b := ⟨_, rfl⟩
  obtain ⟨hd, e_hd⟩ : ∃ b, hasB q.ph 9 = b := ⟨_, rfl⟩
  obtain ⟨hb, e_hb⟩ : ∃ b, hasB p.ph 6 = b := ⟨_, rfl⟩
  rw [e_fx] at CF
  have CF := Lib.hid CF
  rw [e_h1] at C1
  have C1 := Lib.hid C1
  rw [e_h2] at C2
  have C2 := Lib.hid C2
  rw [e_h4] at C4
  have C4 := Lib.hid C4
  rw [e_h8] at C8
  have C8 := Lib.hid C8
  rw [e_h16] at C16
  have C16 := Lib.hid C16
  rw [e_h32] at C32
  have C32 := Lib.hid C32
  rw [e_ha] at CA
  have CA := Lib.hid CA
  rw [e_hd] at CD
  have CD := Lib.hid CD
  rw [e_hb] at CB
  have CB := Lib.hid CB
  rw [e_yc, e_fx, e_h1, e_h2, e_h4, e_h8, e_h16, e_h32, e_ha, e_hd, e_hb]
  clear e_fx e_h1 e_h2 e_h4 e_h8 e_h16 e_h32 e_ha e_hd e_hb
  obtain ⟨R, h_R⟩ : ∃ b, ((ha || hd) && (ha != hb)) = b := ⟨_, rfl⟩
  obtain ⟨K, h_K⟩ : ∃ b, (yc || fx) = b := ⟨_, rfl⟩
  rw [h_R, h_K]
  obtain ⟨r0, h_r0⟩ : ∃ r : Prp, (if R = true then { zPrp with ph := if ha = true then 54 else 57, pe := p.pe, pc := yc } else p) = r := ⟨_, rfl⟩
  rw [h_r0]
  obtain ⟨r1, h_r1⟩ : ∃ r, stp h1 (fun r => { r with pv := q.pv }) r0 = r := ⟨_, rfl⟩
  rw [h_r1]
  obtain ⟨r2, h_r2⟩ : ∃ r, stp h2 (fun r => { r with pg := q.pg }) r1 = r := ⟨_, rfl⟩
  rw [h_r2]
  obtain ⟨r3, h_r3⟩ : ∃ r, stp h4 (fun r => { r with pt := q.pt }) r2 = r := ⟨_, rfl⟩
  rw [h_r3]
  obtain ⟨r4, h_r4⟩ : ∃ r, stp h8 (fun r => { r with pw := q.pw }) r3 = r := ⟨_, rfl⟩
  rw [h_r4]
  obtain ⟨r5, h_r5⟩ : ∃ r, stp h16 (fun r => { r with pe := q.pe }) r4 = r := ⟨_, rfl⟩
  rw [h_r5]
  obtain ⟨r6, h_r6⟩ : ∃ r, stp h32 (fun r => { r with pc := q.pc }) r5 = r := ⟨_, rfl⟩
  rw [h_r6]
  obtain ⟨E, h_E⟩ : ∃ E, (if K = true then Ending.returned (.tuple #[prpV r6, .bool true]) else .returned (.tuple #[prpV zPrp, .bool false])) = E := ⟨_, rfl⟩
  rw [h_E]
  have HR := Lib.hid h_R
  have HK := Lib.hid h_K
  have HE := Lib.hid h_E
  have Hr0 := Lib.hid h_r0
  have Hr1 := Lib.hid h_r1
  have Hr2 := Lib.hid h_r2
  have Hr3 := Lib.hid h_r3
  have Hr4 := Lib.hid h_r4
  have Hr5 := Lib.hid h_r5
  have Hr6 := Lib.hid h_r6
  clear h_R h_K h_E h_r0 h_r1 h_r2 h_r3 h_r4 h_r5 h_r6
  unfold prpV at CF CA CD CB C1 C2 C4 C8 C16 C32 ⊢
  go_enter Try.func19, Try.ntmps19
  go_upto_region 1 with fail
  rw [celP_zero]
  obtain ⟨W1, hW1⟩ : ∃ W1, w.alloc (.cells (celP p) 26) = W1 := ⟨_, rfl⟩
  rw [hW1]
  obtain ⟨W2, hW2⟩ : ∃ W2, W1.alloc (.cells (celP q) 26) = W2 := ⟨_, rfl⟩
  rw [hW2]
  obtain ⟨W3, hW3⟩ : ∃ W3, W2.alloc (.cells (celP zPrp) 26) = W3 := ⟨_, rfl⟩
  have HS := Lib.hid (S3.new hW1 hW2 hW3)
  obtain ⟨a16, a17, a18, d16, d17, d18⟩ := HS.out.cs
  rw [hW3]
  clear hW1 hW2 hW3
  go_upto_if 11 with fail
  go_cut [6] (fun s wx => S3 w wx p q ∧ K = true)
  case first =>
    cases yc
    · cases fx
      · go_wp2_with (first | (refine ldP (k := 12) HS.out.k rfl (by kernel_rfl) rfl rfl ?_) | (refine ldP (k := 13) HS.out.k2 rfl (by kernel_rfl) rfl rfl ?_))
        with_reducible refine (CF.out _).mono ?_
        rintro e w2 ⟨rfl, b2⟩
        have HT := HS; clear HS
        have HS := Lib.hid (HT.out.step b2)
        clear HT b2
        have HR := Lib.hid (show Blk (w2.setRow (w.heap.size + 2) (celP zPrp)) (w.heap.size + 2) zPrp from setRow_heap _ _ _ _ _ _ HS.out.kr)
        have HB := Lib.hid (below_setRowK HS.out.b (show w.heap.size ≤ w.heap.size + 2 by omega) (celP zPrp))
        go_wp2_with (refine stP (p := zPrp) HS.out.kr rfl rfl rfl rfl rfl ?_)
        refine prR2 HR.out rfl rfl rfl ⟨by rw [← HE.out, ← HK.out]; rfl, HB.out⟩
      · go_wp2_with (first | (refine ldP (k := 12) HS.out.k rfl (by kernel_rfl) rfl rfl ?_) | (refine ldP (k := 13) HS.out.k2 rfl (by kernel_rfl) rfl rfl ?_))
        with_reducible refine (CF.out _).mono ?_
        rintro e w2 ⟨rfl, b2⟩
        have HT := HS; clear HS
        have HS := Lib.hid (HT.out.step b2)
        clear HT b2
        go_wp2
        go_meet
        case rel => exact ⟨HS.out, by rw [← HK.out]; rfl⟩
    · go_wp2
      go_meet
      case rel => exact ⟨HS.out, by rw [← HK.out]; rfl⟩
  case rest =>
  clear HS a16 a17 a18 d16 d17 d18 CF
  obtain ⟨hs, hKt⟩ := hcut
  have HS := Lib.hid hs
  have HKT := Lib.hid hKt
  clear hs hKt
  go_upto_region 6 with (first | (refine ldP (k := 18) HS.out.k rfl (by kernel_rfl) rfl rfl ?_) | (refine stP (p := p) (old := zPrp) (show Blk _ wc.heap.size zPrp from heap_alloc_last wc _) rfl rfl rfl rfl rfl ?_; rw [World.setRow_alloc_new]))
  obtain ⟨W5, hW5⟩ : ∃ W, wc.alloc (.cells (celP p) 26) = W := ⟨_, rfl⟩
  have HT := Lib.hid (SC.new HS.out hW5)
  rw [hW5]
  clear hW5 HS
  obtain ⟨X, hX⟩ : ∃ X, wc.heap.size = X := ⟨_, rfl⟩
  rw [hX] at HT ⊢
  clear hX
  have HS := HT
  clear HT
  go_cut [31] (fun c wx => c = .bool R ∧ SC w wx p q X p)
  case first =>
    refine wp_region_held_drew (S := fun wx => SC w wx p q X p) (by kernel_rfl) (HS.out.drew) (fun hHeld => ?_)
    clear HS 
    refine take_s (i := 0) rfl (by kernel_rfl) (by kernel_rfl) (by kernel_rfl) (fun _ _ _ h => h) (Or.inl ⟨by rfl, fun w hS => ldP_run hS.k2 rfl rfl⟩) rfl (by assumption) ?_; simp only [lset]
    cases ha
    · skip
      refine call_s (i := 1) (by kernel_rfl) rfl rfl (by rfl) (fun K hK => ?_)
      go_simp
      with_reducible refine (CA.out _).mono ?_
      rintro e w2 ⟨rfl, b2⟩
      have hHe2 := hHeld.step b2
      clear hHeld b2
      refine hK.out _ _ hHe2 ?_; clear hK K; simp only [lset]
      have hHeld := hHe2; clear hHe2
      refine take_s (i := 2) rfl (by kernel_rfl) (by kernel_rfl) (by kernel_rfl) (fun _ _ _ h => h) (Or.inl ⟨by rfl, by (intro w hSw; go_simp; try with_reducible rfl)⟩) rfl (by assumption) ?_; simp only [lset]
      refine take_s (i := 3) rfl (by kernel_rfl) (by kernel_rfl) (by kernel_rfl) (fun _ _ _ h => h) (Or.inl ⟨by rfl, fun w hS => ldP_run hS.k2 rfl rfl⟩) rfl (by assumption) ?_; simp only [lset]
      cases hd
      · skip
        refine call_s (i := 4) (by kernel_rfl) rfl rfl (by rfl) (fun K hK => ?_)
        go_simp
        with_reducible refine (CD.out _).mono ?_
        rintro e w2 ⟨rfl, b2⟩
        have hHe2 := hHeld.step b2
        clear hHeld b2
        refine hK.out _ _ hHe2 ?_; clear hK K; simp only [lset]
        have hHeld := hHe2; clear hHe2
        refine take_s (i := 5) rfl (by kernel_rfl) (by kernel_rfl) (by kernel_rfl) (fun _ _ _ h => h) (Or.inl ⟨by rfl, by (intro w hSw; go_simp; try with_reducible rfl)⟩) rfl (by assumption) ?_; simp only [lset]
        refine take_s (i := 6) rfl (by kernel_rfl) (by kernel_rfl) (by kernel_rfl) (fun _ _ _ h => h) (Or.inl ⟨by rfl, by (intro w hSw; go_simp; try with_reducible rfl)⟩) rfl (by assumption) ?_; simp only [lset]
        refine take_s (i := 7) rfl (by kernel_rfl) (by kernel_rfl) (by kernel_rfl) (fun _ _ _ h => h) (Or.inr ⟨by rfl, rfl⟩) rfl (by assumption) ?_; simp only [lset]
        refine take_s (i := 8) rfl (by kernel_rfl) (by kernel_rfl) (by kernel_rfl) (fun _ _ _ h => h) (Or.inr ⟨by rfl, rfl⟩) rfl (by assumption) ?_; simp only [lset]
        refine take_s (i := 9) rfl (by kernel_rfl) (by kernel_rfl) (by kernel_rfl) (fun _ _ _ h => h) (Or.inr ⟨by rfl, rfl⟩) rfl (by assumption) ?_; simp only [lset]
        refine take_s (i := 10) rfl (by kernel_rfl) (by kernel_rfl) (by kernel_rfl) (fun _ _ _ h => h) (Or.inr ⟨by rfl, rfl⟩) rfl (by assumption) ?_; simp only [lset]
        refine take_s (i := 11) rfl (by kernel_rfl) (by kernel_rfl) (by kernel_rfl) (fun _ _ _ h => h) (Or.inr ⟨by rfl, rfl⟩) rfl (by assumption) ?_; simp only [lset]
        refine take_s (i := 12) rfl (by kernel_rfl) (by kernel_rfl) (by kernel_rfl) (fun _ _ _ h => h) (Or.inl ⟨by rfl, by (intro w hSw; go_simp; try with_reducible rfl)⟩) rfl (by assumption) ?_; simp only [lset]
        refine wpAnyH_done (by kernel_rfl) ?_ _
        have HS := Lib.hid hHeld
        clear hHeld
        go_wp2
        go_meet
        case rel => exact ⟨by rw [← HR.out]; rfl, HS.out⟩
      · skip
        refine call_s (i := 4) (by kernel_rfl) rfl rfl (by rfl) (fun K hK => ?_)
        go_simp
        with_reducible refine (CD.out _).mono ?_
        rintro e w2 ⟨rfl, b2⟩
        have hHe2 := hHeld.step b2
        clear hHeld b2
        refine hK.out _ _ hHe2 ?_; clear hK K; simp only [lset]
        have hHeld := hHe2; clear hHe2
        refine take_s (i := 5) rfl (by kernel_rfl) (by kernel_rfl) (by kernel_rfl) (fun _ _ _ h => h) (Or.inl ⟨by rfl, by (intro w hSw; go_simp; try with_reducible rfl)⟩) rfl (by assumption) ?_; simp only [lset]
        refine take_s (i := 6) rfl (by kernel_rfl) (by kernel_rfl) (by kernel_rfl) (fun _ _ _ h => h) (Or.inl ⟨by rfl, by (intro w hSw; go_simp; try with_reducible rfl)⟩) rfl (by assumption) ?_; simp only [lset]
        refine take_s (i := 7) rfl (by kernel_rfl) (by kernel_rfl) (by kernel_rfl) (fun _ _ _ h => h) (Or.inl ⟨by rfl, fun w hS => ldP_run hS.k2 rfl rfl⟩) rfl (by assumption) ?_; simp only [lset]
        refine take_s (i := 9) rfl (by kernel_rfl) (by kernel_rfl) (by kernel_rfl) (fun _ _ _ h => h) (Or.inl ⟨by rfl, fun w hS => ldP_run hS.k rfl rfl⟩) rfl (by assumption) ?_; simp only [lset]
        refine call_s (i := 8) (by kernel_rfl) rfl rfl (by rfl) (fun K hK => ?_)
        go_simp
        with_reducible refine (CA.out _).mono ?_
        rintro e w2 ⟨rfl, b2⟩
        have hHe2 := hHeld.step b2
        clear hHeld b2
        refine hK.out _ _ hHe2 ?_; clear hK K; simp only [lset]
        have hHeld := hHe2; clear hHe2
        cases hb
        · skip
          refine call_s (i := 10) (by kernel_rfl) rfl rfl (by rfl) (fun K hK => ?_)
          go_simp
          with_reducible refine (CB.out _).mono ?_
          rintro e w2 ⟨rfl, b2⟩
          have hHe2 := hHeld.step b2
          clear hHeld b2
          refine hK.out _ _ hHe2 ?_; clear hK K; simp only [lset]
          have hHeld := hHe2; clear hHe2
          refine take_s (i := 11) rfl (by kernel_rfl) (by kernel_rfl) (by kernel_rfl) (fun _ _ _ h => h) (Or.inl ⟨by rfl, by (intro w hSw; go_simp; try with_reducible rfl)⟩) rfl (by assumption) ?_; simp only [lset]
          refine take_s (i := 12) rfl (by kernel_rfl) (by kernel_rfl) (by kernel_rfl) (fun _ _ _ h => h) (Or.inl ⟨by rfl, by (intro w hSw; go_simp; try with_reducible rfl)⟩) rfl (by assumption) ?_; simp only [lset]
          refine wpAnyH_done (by kernel_rfl) ?_ _
          have HS := Lib.hid hHeld
          clear hHeld
          go_wp2
          go_meet
          case rel => exact ⟨by rw [← HR.out]; rfl, HS.out⟩
        · skip
          refine call_s (i := 10) (by kernel_rfl) rfl rfl (by rfl) (fun K hK => ?_)
          go_simp
          with_reducible refine (CB.out _).mono ?_
          rintro e w2 ⟨rfl, b2⟩
          have hHe2 := hHeld.step b2
          clear hHeld b2
          refine hK.out _ _ hHe2 ?_; clear hK K; simp only [lset]
          have hHeld := hHe2; clear hHe2
          refine take_s (i := 11) rfl (by kernel_rfl) (by kernel_rfl) (by kernel_rfl) (fun _ _ _ h => h) (Or.inl ⟨by rfl, by (intro w hSw; go_simp; try with_reducible rfl)⟩) rfl (by assumption) ?_; simp only [lset]
          refine take_s (i := 12) rfl (by kernel_rfl) (by kernel_rfl) (by kernel_rfl) (fun _ _ _ h => h) (Or.inl ⟨by rfl, by (intro w hSw; go_simp; try with_reducible rfl)⟩) rfl (by assumption) ?_; simp only [lset]
          refine wpAnyH_done (by kernel_rfl) ?_ _
          have HS := Lib.hid hHeld
          clear hHeld
          go_wp2
          go_meet
          case rel => exact ⟨by rw [← HR.out]; rfl, HS.out⟩
    · skip
      refine call_s (i := 1) (by kernel_rfl) rfl rfl (by rfl) (fun K hK => ?_)
      go_simp
      with_reducible refine (CA.out _).mono ?_
      rintro e w2 ⟨rfl, b2⟩
      have hHe2 := hHeld.step b2
      clear hHeld b2
      refine hK.out _ _ hHe2 ?_; clear hK K; simp only [lset]
      have hHeld := hHe2; clear hHe2
      refine take_s (i := 2) rfl (by kernel_rfl) (by kernel_rfl) (by kernel_rfl) (fun _ _ _ h => h) (Or.inl ⟨by rfl, by (intro w hSw; go_simp; try with_reducible rfl)⟩) rfl (by assumption) ?_; simp only [lset]
      refine take_s (i := 3) rfl (by kernel_rfl) (by kernel_rfl) (by kernel_rfl) (fun _ _ _ h => h) (Or.inr ⟨by rfl, rfl⟩) rfl (by assumption) ?_; simp only [lset]
      refine take_s (i := 4) rfl (by kernel_rfl) (by kernel_rfl) (by kernel_rfl) (fun _ _ _ h => h) (Or.inr ⟨by rfl, rfl⟩) rfl (by assumption) ?_; simp only [lset]
      refine take_s (i := 5) rfl (by kernel_rfl) (by kernel_rfl) (by kernel_rfl) (fun _ _ _ h => h) (Or.inl ⟨by rfl, by (intro w hSw; go_simp; try with_reducible rfl)⟩) rfl (by assumption) ?_; simp only [lset]
      refine take_s (i := 6) rfl (by kernel_rfl) (by kernel_rfl) (by kernel_rfl) (fun _ _ _ h => h) (Or.inl ⟨by rfl, by (intro w hSw; go_simp; try with_reducible rfl)⟩) rfl (by assumption) ?_; simp only [lset]
      refine take_s (i := 7) rfl (by kernel_rfl) (by kernel_rfl) (by kernel_rfl) (fun _ _ _ h => h) (Or.inl ⟨by rfl, fun w hS => ldP_run hS.k2 rfl rfl⟩) rfl (by assumption) ?_; simp only [lset]
      refine take_s (i := 9) rfl (by kernel_rfl) (by kernel_rfl) (by kernel_rfl) (fun _ _ _ h => h) (Or.inl ⟨by rfl, fun w hS => ldP_run hS.k rfl rfl⟩) rfl (by assumption) ?_; simp only [lset]
      refine call_s (i := 8) (by kernel_rfl) rfl rfl (by rfl) (fun K hK => ?_)
      go_simp
      with_reducible refine (CA.out _).mono ?_
      rintro e w2 ⟨rfl, b2⟩
      have hHe2 := hHeld.step b2
      clear hHeld b2
      refine hK.out _ _ hHe2 ?_; clear hK K; simp only [lset]
      have hHeld := hHe2; clear hHe2
      cases hb
      · skip
        refine call_s (i := 10) (by kernel_rfl) rfl rfl (by rfl) (fun K hK => ?_)
        go_simp
        with_reducible refine (CB.out _).mono ?_
        rintro e w2 ⟨rfl, b2⟩
        have hHe2 := hHeld.step b2
        clear hHeld b2
        refine hK.out _ _ hHe2 ?_; clear hK K; simp only [lset]
        have hHeld := hHe2; clear hHe2
        refine take_s (i := 11) rfl (by kernel_rfl) (by kernel_rfl) (by kernel_rfl) (fun _ _ _ h => h) (Or.inl ⟨by rfl, by (intro w hSw; go_simp; try with_reducible rfl)⟩) rfl (by assumption) ?_; simp only [lset]
        refine take_s (i := 12) rfl (by kernel_rfl) (by kernel_rfl) (by kernel_rfl) (fun _ _ _ h => h) (Or.inl ⟨by rfl, by (intro w hSw; go_simp; try with_reducible rfl)⟩) rfl (by assumption) ?_; simp only [lset]
        refine wpAnyH_done (by kernel_rfl) ?_ _
        have HS := Lib.hid hHeld
        clear hHeld
        go_wp2
        go_meet
        case rel => exact ⟨by rw [← HR.out]; rfl, HS.out⟩
      · skip
        refine call_s (i := 10) (by kernel_rfl) rfl rfl (by rfl) (fun K hK => ?_)
        go_simp
        with_reducible refine (CB.out _).mono ?_
        rintro e w2 ⟨rfl, b2⟩
        have hHe2 := hHeld.step b2
        clear hHeld b2
        refine hK.out _ _ hHe2 ?_; clear hK K; simp only [lset]
        have hHeld := hHe2; clear hHe2
        refine take_s (i := 11) rfl (by kernel_rfl) (by kernel_rfl) (by kernel_rfl) (fun _ _ _ h => h) (Or.inl ⟨by rfl, by (intro w hSw; go_simp; try with_reducible rfl)⟩) rfl (by assumption) ?_; simp only [lset]
        refine take_s (i := 12) rfl (by kernel_rfl) (by kernel_rfl) (by kernel_rfl) (fun _ _ _ h => h) (Or.inl ⟨by rfl, by (intro w hSw; go_simp; try with_reducible rfl)⟩) rfl (by assumption) ?_; simp only [lset]
        refine wpAnyH_done (by kernel_rfl) ?_ _
        have HS := Lib.hid hHeld
        clear hHeld
        go_wp2
        go_meet
        case rel => exact ⟨by rw [← HR.out]; rfl, HS.out⟩
  case rest =>
  clear HS CB CD
  obtain ⟨rfl, hs⟩ := hcut
  have HS := Lib.hid hs
  clear hs
  obtain ⟨a17, a18, d16, d17, d18⟩ := HS.out.cs
  go_upto_if 31 with fail
  go_cut [8] (fun s wx => SC w wx p q X r0)
  case first =>
    cases R
    · go_wp2
      go_meet
      case rel => (rw [← Hr0.out]; exact HS.out)
    · cases ha
      · go_wp2_with (refine ldP (k := 32) HS.out.k2 rfl (by kernel_rfl) rfl rfl ?_)
        with_reducible refine (CA.out _).mono ?_
        rintro e w2 ⟨rfl, b2⟩
        have HT := HS; clear HS
        have HS := Lib.hid (HT.out.step b2)
        clear HT b2 a17 a18 d16 d17 d18
        obtain ⟨a17, a18, d16, d17, d18⟩ := HS.out.cs
        rw [e_yc] at a18
        go_wp2_with (refine stP (p := { zPrp with ph := 57, pe := p.pe, pc := yc }) HS.out.ko rfl rfl rfl rfl rfl ?_)
        go_meet
        case rel => (rw [← Hr0.out]; exact HS.out.row _)
      · go_wp2_with (refine ldP (k := 32) HS.out.k2 rfl (by kernel_rfl) rfl rfl ?_)
        with_reducible refine (CA.out _).mono ?_
        rintro e w2 ⟨rfl, b2⟩
        have HT := HS; clear HS
        have HS := Lib.hid (HT.out.step b2)
        clear HT b2 a17 a18 d16 d17 d18
        obtain ⟨a17, a18, d16, d17, d18⟩ := HS.out.cs
        rw [e_yc] at a18
        go_wp2_with (refine stP (p := { zPrp with ph := 54, pe := p.pe, pc := yc }) HS.out.ko rfl rfl rfl rfl rfl ?_)
        go_meet
        case rel => (rw [← Hr0.out]; exact HS.out.row _)
  case rest =>
  clear HS a17 a18 d16 d17 d18
  have HS := Lib.hid hcut
  clear hcut
  go_upto_if 42 with (first | (refine ldP (k := 41) HS.out.k2 rfl (by kernel_rfl) rfl rfl ?_) | (go_at_call 24; with_reducible refine (C1.out _).mono ?_; rintro e w2 ⟨rfl, b2⟩))
  have HT := HS
  clear HS
  have HS := Lib.hid (HT.out.step b2)
  clear HT b2
  obtain ⟨a17, a18, d16, d17, d18⟩ := HS.out.cs
  go_cut [] (fun wx => SC w wx p q X r1)
  case first =>
    cases h1
    · go_wp2
      go_meet
      case rel => (rw [← Hr1.out]; exact HS.out)
    · skip
      have x0 := HS.out.ko.cell (k := 1) (v := .int .i64 r0.pv.vk) rfl
      have z0 := HS.out.ko.frozen 1
      have x1 := HS.out.ko.cell (k := 2) (v := .bool r0.pv.vb) rfl
      have z1 := HS.out.ko.frozen 2
      have x2 := HS.out.ko.cell (k := 3) (v := .float .f64 r0.pv.vn) rfl
      have z2 := HS.out.ko.frozen 3
      have x3 := HS.out.ko.cell (k := 4) (v := .string r0.pv.vs) rfl
      have z3 := HS.out.ko.frozen 4
      have x4 := HS.out.ko.cell (k := 5) (v := .int .i64 r0.pv.vo) rfl
      have z4 := HS.out.ko.frozen 5
      go_wp2_with (refine ldW (k := 44) (off := 1) (v := q.pv) HS.out.k2 rfl rfl (by omega) (by kernel_rfl) rfl rfl ?_)
      go_meet
      case rel => (rw [← Hr1.out]; exact HS.out.s_pv _)
  case rest =>
  clear HS a17 a18 d16 d17 d18
  have HS := Lib.hid hcut
  clear hcut
  go_upto_if 47 with (first | (refine ldP (k := 46) HS.out.k2 rfl (by kernel_rfl) rfl rfl ?_) | (go_at_call 24; with_reducible refine (C2.out _).mono ?_; rintro e w2 ⟨rfl, b2⟩))
  have HT := HS
  clear HS
  have HS := Lib.hid (HT.out.step b2)
  clear HT b2
  obtain ⟨a17, a18, d16, d17, d18⟩ := HS.out.cs
  go_cut [] (fun wx => SC w wx p q X r2)
  case first =>
    cases h2
    · go_wp2
      go_meet
      case rel => (rw [← Hr2.out]; exact HS.out)
    · skip
      have x0 := HS.out.ko.cell (k := 6) (v := .int .i64 r1.pg.vk) rfl
      have z0 := HS.out.ko.frozen 6
      have x1 := HS.out.ko.cell (k := 7) (v := .bool r1.pg.vb) rfl
      have z1 := HS.out.ko.frozen 7
      have x2 := HS.out.ko.cell (k := 8) (v := .float .f64 r1.pg.vn) rfl
      have z2 := HS.out.ko.frozen 8
      have x3 := HS.out.ko.cell (k := 9) (v := .string r1.pg.vs) rfl
      have z3 := HS.out.ko.frozen 9
      have x4 := HS.out.ko.cell (k := 10) (v := .int .i64 r1.pg.vo) rfl
      have z4 := HS.out.ko.frozen 10
      go_wp2_with (refine ldW (k := 49) (off := 6) (v := q.pg) HS.out.k2 rfl rfl (by omega) (by kernel_rfl) rfl rfl ?_)
      go_meet
      case rel => (rw [← Hr2.out]; exact HS.out.s_pg _)
  case rest =>
  clear HS a17 a18 d16 d17 d18
  have HS := Lib.hid hcut
  clear hcut
  go_upto_if 52 with (first | (refine ldP (k := 51) HS.out.k2 rfl (by kernel_rfl) rfl rfl ?_) | (go_at_call 24; with_reducible refine (C4.out _).mono ?_; rintro e w2 ⟨rfl, b2⟩))
  have HT := HS
  clear HS
  have HS := Lib.hid (HT.out.step b2)
  clear HT b2
  obtain ⟨a17, a18, d16, d17, d18⟩ := HS.out.cs
  go_cut [] (fun wx => SC w wx p q X r3)
  case first =>
    cases h4
    · go_wp2
      go_meet
      case rel => (rw [← Hr3.out]; exact HS.out)
    · skip
      have x0 := HS.out.ko.cell (k := 11) (v := .int .i64 r2.pt.vk) rfl
      have z0 := HS.out.ko.frozen 11
      have x1 := HS.out.ko.cell (k := 12) (v := .bool r2.pt.vb) rfl
      have z1 := HS.out.ko.frozen 12
      have x2 := HS.out.ko.cell (k := 13) (v := .float .f64 r2.pt.vn) rfl
      have z2 := HS.out.ko.frozen 13
      have x3 := HS.out.ko.cell (k := 14) (v := .string r2.pt.vs) rfl
      have z3 := HS.out.ko.frozen 14
      have x4 := HS.out.ko.cell (k := 15) (v := .int .i64 r2.pt.vo) rfl
      have z4 := HS.out.ko.frozen 15
      go_wp2_with (refine ldW (k := 54) (off := 11) (v := q.pt) HS.out.k2 rfl rfl (by omega) (by kernel_rfl) rfl rfl ?_)
      go_meet
      case rel => (rw [← Hr3.out]; exact HS.out.s_pt _)
  case rest =>
  clear HS a17 a18 d16 d17 d18
  have HS := Lib.hid hcut
  clear hcut
  go_upto_if 57 with (first | (refine ldP (k := 56) HS.out.k2 rfl (by kernel_rfl) rfl rfl ?_) | (go_at_call 24; with_reducible refine (C8.out _).mono ?_; rintro e w2 ⟨rfl, b2⟩))
  have HT := HS
  clear HS
  have HS := Lib.hid (HT.out.step b2)
  clear HT b2
  obtain ⟨a17, a18, d16, d17, d18⟩ := HS.out.cs
  go_cut [] (fun wx => SC w wx p q X r4)
  case first =>
    cases h8
    · go_wp2
      go_meet
      case rel => (rw [← Hr4.out]; exact HS.out)
    · skip
      have x0 := HS.out.ko.cell (k := 16) (v := .bool r3.pw) rfl
      have z0 := HS.out.ko.frozen 16
      go_wp2
      go_meet
      case rel => (rw [← Hr4.out]; exact HS.out.set (HS.out.ko.s_pw _))
  case rest =>
  clear HS a17 a18 d16 d17 d18
  have HS := Lib.hid hcut
  clear hcut
  go_upto_if 62 with (first | (refine ldP (k := 61) HS.out.k2 rfl (by kernel_rfl) rfl rfl ?_) | (go_at_call 24; with_reducible refine (C16.out _).mono ?_; rintro e w2 ⟨rfl, b2⟩))
  have HT := HS
  clear HS
  have HS := Lib.hid (HT.out.step b2)
  clear HT b2
  obtain ⟨a17, a18, d16, d17, d18⟩ := HS.out.cs
  go_cut [] (fun wx => SC w wx p q X r5)
  case first =>
    cases h16
    · go_wp2
      go_meet
      case rel => (rw [← Hr5.out]; exact HS.out)
    · skip
      have x0 := HS.out.ko.cell (k := 17) (v := .bool r4.pe) rfl
      have z0 := HS.out.ko.frozen 17
      go_wp2
      go_meet
      case rel => (rw [← Hr5.out]; exact HS.out.set (HS.out.ko.s_pe _))
  case rest =>
  clear HS a17 a18 d16 d17 d18
  have HS := Lib.hid hcut
  clear hcut
  go_upto_if 67 with (first | (refine ldP (k := 66) HS.out.k2 rfl (by kernel_rfl) rfl rfl ?_) | (go_at_call 24; with_reducible refine (C32.out _).mono ?_; rintro e w2 ⟨rfl, b2⟩))
  have HT := HS
  clear HS
  have HS := Lib.hid (HT.out.step b2)
  clear HT b2
  obtain ⟨a17, a18, d16, d17, d18⟩ := HS.out.cs
  go_cut [] (fun wx => SC w wx p q X r6)
  case first =>
    cases h32
    · go_wp2
      go_meet
      case rel => (rw [← Hr6.out]; exact HS.out)
    · skip
      have x0 := HS.out.ko.cell (k := 18) (v := .bool r5.pc) rfl
      have z0 := HS.out.ko.frozen 18
      go_wp2
      go_meet
      case rel => (rw [← Hr6.out]; exact HS.out.set (HS.out.ko.s_pc _))
  case rest =>
  clear HS a17 a18 d16 d17 d18
  have HS := Lib.hid hcut
  clear hcut
  have HR2 := Lib.hid (show Blk (wc.setRow (w.heap.size + 2) (celP r6)) (w.heap.size + 2) r6 from setRow_heap _ _ _ _ _ _ HS.out.kr)
  have HB := Lib.hid (below_setRowK HS.out.b (show w.heap.size ≤ w.heap.size + 2 by omega) (celP r6))
  go_wp2_with (first | (refine ldP (k := 71) HS.out.ko rfl (by kernel_rfl) rfl rfl ?_) | (refine stP (p := r6) HS.out.kr rfl rfl rfl rfl rfl ?_))
  refine prR2 HR2.out rfl rfl rfl ⟨by rw [← HE.out, HKT.out]; rfl, HB.out⟩
end Go.Proofs.Ytlkgijinckhkkaa
