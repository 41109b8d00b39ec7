/-
  The program's measure of a tree.
-/
import Derived.Test.YtfpmhahjemdodaaGreatDoorJ6
namespace Go.Proofs.YtfpmhahjemdodaaGreatDoor
open Go.RowKit Go.Shelf
attribute [local go_sem] Oper.semAt_some
attribute [local go_sem] stFl
/-- Measure's cells behind k rounds. -/
structure MI (t : Tn) (w0 : World) (k : Nat) (W : World) : Prop where
  s : W.heap[w0.heap.size + 1 + 1 + 1]? = some (.cells #[.int .i64 (Tr.szs t k : Nat)] 3 (0, 0))
  d : W.heap[w0.heap.size + 1 + 1 + 1 + 1]? = some (.cells #[.int .i64 (k : Nat)] 3 (0, 0))
  r1 : W.heap[w0.heap.size + 1]? = some (.cells #[.int .i64 0] 3 (0, 0))
  r2 : W.heap[w0.heap.size + 1 + 1]? = some (.cells #[.int .i64 0] 3 (0, 0))
  le : Tr.szs t k ≤ 1048576
  b : Below w0.heap.size w0 W
/-- And where the nodes are too many. -/
structure MX (t : Tn) (w0 W : World) : Prop where
  r1 : W.heap[w0.heap.size + 1]? = some (.cells #[.int .i64 0] 3 (0, 0))
  r2 : W.heap[w0.heap.size + 1 + 1]? = some (.cells #[.int .i64 0] 3 (0, 0))
  le : 1048576 < t.size
  b : Below w0.heap.size w0 W
theorem MI.on {t : Tn} {w0 A B : World} {k : Nat} (h : MI t w0 k A) (hb : Below (w0.heap.size + 6) A B) : MI t w0 k B :=
  ⟨(hb.block _ (by omega)).trans h.s, (hb.block _ (by omega)).trans h.d, (hb.block _ (by omega)).trans h.r1, (hb.block _ (by omega)).trans h.r2, h.le, h.b.trans (hb.mono (by omega))⟩
theorem MX.on {t : Tn} {w0 A B : World} (h : MX t w0 A) (hb : Below (w0.heap.size + 6) A B) : MX t w0 B :=
  ⟨(hb.block _ (by omega)).trans h.r1, (hb.block _ (by omega)).trans h.r2, h.le, h.b.trans (hb.mono (by omega))⟩
theorem results_cc {fn : Func} {p q : Tmp} {s t : TypeId} (h : fn.results = #[.cell p s, .cell q t]) (tmps : Array Value) (P : Program) (w : World) (a b : Addr) (u v : Value) (ha : tmps.getD p undef = .pointer (some a)) (hb : tmps.getD q undef = .pointer (some b))
    (hu : (loadVar s a).run P w = .ok u w) (hv : (loadVar t b).run P w = .ok v w) : (results fn tmps).run P w = .ok (.tuple #[u, v]) w := by
  simp only [results, h]
  simp [-Array.getD_eq_getD_getElem?, ha, hb, asAddr, hu, hv]
theorem load_int {w : World} {a : Addr} {n : Int} (h : w.cell? a = some (.int .i64 n)) : (loadVar 3 a).run Tryz.prog w = .ok (.int .i64 n) w := by
  go_simp
/-- Within a round: the size so far. -/
structure MB (t : Tn) (w0 W : World) (k j : Nat) (w : World) : Prop where
  s : w.heap[w0.heap.size + 1 + 1 + 1]? = some (.cells #[.int .i64 (Tr.szs t k + ((Tr.lev t k).take j).flatten.length : Nat)] 3 (0, 0))
  gr : W.grownBy w (some (w0.heap.size + 1 + 1 + 1))
theorem grown_set {W w : World} {b : Nat} (v : Value) (h : W.grownBy w (some b)) : W.grownBy (w.setCell ⟨b, 0, none⟩ v) (some b) :=
  ⟨h.os, h.tape, h.output, by have := h.size; simp [World.setCell]; exact this, fun k hk hne => (Below.heap_setCell _ _ _ _ (fun e => hne (by rw [e]))).trans (h.block k hk hne)⟩
theorem heap_set1 {w : World} {b : Nat} {v : Value} {T : TypeId} (u : Value) (h : w.heap[b]? = some (.cells #[v] T (0, 0))) : (w.setCell ⟨b, 0, none⟩ u).heap[b]? = some (.cells #[u] T (0, 0)) :=
  (heap_setCell_same w b 0 #[v] T u h).trans rfl
theorem flat_take {L : List (List Tn)} {j : Nat} {l : List Tn} (h : L[j]? = some l) : (L.take (j + 1)).flatten.length = (L.take j).flatten.length + l.length := by
  rw [List.take_add_one, h, List.flatten_append, List.length_append]
  simp
theorem flat_le (L : List (List Tn)) (j : Nat) : (L.take j).flatten.length ≤ L.flatten.length := by
  conv => rhs; rw [← List.take_append_drop j L, List.flatten_append]
  simp
theorem wrap_add {a b : Nat} (h : a + b ≤ 4398046511104) : wrap64 ((a : Int) + (b : Int)) = ((a + b : Nat) : Int) := by
  unfold wrap64
  omega
theorem meas_dec {L j : Nat} (h : j < L) : L - (intOf (.int .i64 ((j + 1 : Nat) : Int))).toNat < L - (intOf (.int .i64 (j : Int))).toNat := by
  simp only [intOf]
  omega
theorem depths_le : ∀ l : List Tn, Tr.depths l ≤ Tr.sizes l
  | [] => by simp [Tr.depths, Tr.sizes]
  | .mk d l :: r => by
    have h1 := depths_le l
    have h2 := depths_le r
    simp only [Tr.depths, Tr.sizes, Tr.depth, Tr.size]
    omega
theorem depth_le (t : Tn) : t.depth ≤ t.size := by
  have := depths_le t.kids
  rw [Tr.depth_eq, Tr.size_eq]
  omega
theorem cell1 {W : World} {g : Nat} {v : Value} {T : TypeId} (h : W.heap[g]? = some (.cells #[v] T (0, 0))) : W.cell? ⟨g, 0, none⟩ = some v ∧ W.frozen? ⟨g, 0, none⟩ = false :=
  ⟨cell_of_row W g 0 _ _ _ h, frozen_of_row W g 0 _ _ h⟩
set_option maxRecDepth 100000 in
set_option maxHeartbeats 2000000 in
theorem measure_any (t : Tn) (cs : List Value) (w : World) (ht : At (fun b => b < w.heap.size) w t cs) (h24 : t.size ≤ 4398046511103) :
    Calls Tryz.prog 9 #[.agg cs.toArray] w fun e w' => e = .returned (.tuple (if 1048576 < t.size then #[.int .i64 0, .int .i64 0] else #[.int .i64 (t.size : Nat), .int .i64 (t.depth : Nat)])) ∧ Below w.heap.size w w' := by
  obtain ⟨R, hR⟩ : ∃ R, (if 1048576 < t.size then (#[.int .i64 0, .int .i64 0] : Array Value) else #[.int .i64 (t.size : Nat), .int .i64 (t.depth : Nat)]) = R := ⟨_, rfl⟩
  rw [hR]
  have HR := Lib.hid hR
  clear hR
  obtain ⟨s, rfl, hS⟩ := at_parts ht
  obtain ⟨A6, c6, rfl, -, -⟩ := hS
  have CL := Lib.hid (fun W => levels_any t.datum (.slice A6 t.kids.length c6) W)
  unfold nodV celN at CL
  refine (callsIn_wide (n := 0)).1 ?_
  refine callsIn_of_wp_marks Tryz.func9 rfl trivial ?_ rfl
  simp only [Tryz.ntmps9, List.size_toArray, List.length_cons, List.length_nil, Nat.reduceAdd, Nat.reduceSub, Array.replicate_succ, Array.replicate_zero, List.push_toArray, List.append_toArray, List.nil_append, List.cons_append, celN]
  generalize Tr.datum t = d at *
  gi_wp2
  obtain ⟨w1, hw1⟩ : ∃ w1, w.alloc (.cells #[.int .i64 d.k, .string d.op, .string d.st, .float .f64 d.nm, .bool d.fl, .slice A6 t.kids.length c6, .int .i64 d.ps] 25) = w1 := ⟨_, rfl⟩
  obtain ⟨w2, hw2⟩ : ∃ w2, w1.alloc (.cells #[.int .i64 0] 3) = w2 := ⟨_, rfl⟩
  obtain ⟨w3, hw3⟩ : ∃ w3, w2.alloc (.cells #[.int .i64 0] 3) = w3 := ⟨_, rfl⟩
  obtain ⟨w4, hw4⟩ : ∃ w4, w3.alloc (.cells #[.int .i64 0] 3) = w4 := ⟨_, rfl⟩
  obtain ⟨w5, hw5⟩ : ∃ w5, w4.alloc (.cells #[.int .i64 0] 3) = w5 := ⟨_, rfl⟩
  rw [hw1, hw2, hw3, hw4, hw5]
  refine ⟨trivial, rfl, (callsIn_wide.2 (CL.out _)).mono ?_⟩
  rintro e w6 ⟨rfl, hq6⟩
  have hw6 := hq6.symm
  clear hq6
  have z1 : w1.heap.size = w.heap.size + 1 := by rw [← hw1]; simp
  have z2 : w2.heap.size = w.heap.size + 2 := by rw [← hw2]; simp [z1]
  have z3 : w3.heap.size = w.heap.size + 3 := by rw [← hw3]; simp [z2]
  have z4 : w4.heap.size = w.heap.size + 4 := by rw [← hw4]; simp [z3]
  have z5 : w5.heap.size = w.heap.size + 5 := by rw [← hw5]; simp [z4]
  have z6 : w6.heap.size = w.heap.size + 6 := by rw [← hw6]; simp [z5]
  have b1 : Below w.heap.size w w1 := by rw [← hw1]; exact (Below.refl _ _).alloc (Nat.le_refl _) _
  have b2 : Below (w.heap.size + 1) w1 w2 := by rw [← hw2, ← z1]; exact (Below.refl _ _).alloc (Nat.le_refl _) _
  have b3 : Below (w.heap.size + 2) w2 w3 := by rw [← hw3, ← z2]; exact (Below.refl _ _).alloc (Nat.le_refl _) _
  have b4 : Below (w.heap.size + 3) w3 w4 := by rw [← hw4, ← z3]; exact (Below.refl _ _).alloc (Nat.le_refl _) _
  have b5 : Below (w.heap.size + 4) w4 w5 := by rw [← hw5, ← z4]; exact (Below.refl _ _).alloc (Nat.le_refl _) _
  have b6 : Below (w.heap.size + 5) w5 w6 := by rw [← hw6, ← z5]; exact (Below.refl _ _).alloc (Nat.le_refl _) _
  have bw : Below w.heap.size w w6 := b1.trans ((b2.mono (by omega)).trans ((b3.mono (by omega)).trans ((b4.mono (by omega)).trans ((b5.mono (by omega)).trans (b6.mono (by omega))))))
  have hM0 : MI t w 0 w6 := by
    refine ⟨?_, ?_, ?_, ?_, by simp [Tr.szs], bw⟩
    · rw [b6.block _ (by omega), b5.block _ (by omega), ← hw4, ← z3]; exact World.alloc_heap_new _ _
    · rw [b6.block _ (by omega), ← hw5, ← z4]; exact World.alloc_heap_new _ _
    · rw [b6.block _ (by omega), b5.block _ (by omega), b4.block _ (by omega), b3.block _ (by omega), ← hw2, ← z1]; exact World.alloc_heap_new _ _
    · rw [b6.block _ (by omega), b5.block _ (by omega), b4.block _ (by omega), ← hw3, ← z2]; exact World.alloc_heap_new _ _
  have hit := levels_itr (n := w.heap.size) (Bn := w5.heap.size) (t := t) (w := w6) (by omega) (by rw [← hw6]; exact World.alloc_heap_new _ _) (At.keep (Same.below bw) _ _ ht) h24
  rw [z5] at hit
  rw [z5]
  clear hw1 hw2 hw3 hw4 hw5 hw6 b1 b2 b3 b4 b5 b6 z1 z2 z3 z4 z5 CL
  gi_wp2
  refine wp_range (gf := 22) (lb := #[.pointer (some ⟨w.heap.size + 5, 0, none⟩)]) rfl (enters_of Tryz.func22 (by kernel_rfl) rfl) hit (Below.refl _ _) (by omega) (fun k A B v h hk => levX_keep h hk)
    (MI t w) (fun c _ W => c = .ret ∧ MX t w W) (fun k A B h _ hb => h.on (by rw [← z6]; exact hb)) (fun c k A B h _ hb => ⟨h.1, h.2.on (by rw [← z6]; exact hb)⟩) hM0
    (fun v => { tmps := #[.agg #[.int .i64 d.k, .string d.op, .string d.st, .float .f64 d.nm, .bool d.fl, .slice A6 t.kids.length c6, .int .i64 d.ps], .pointer (some ⟨w.heap.size, 0, none⟩), .pointer (some ⟨w.heap.size + 1, 0, none⟩), .pointer (some ⟨w.heap.size + 1 + 1, 0, none⟩), .pointer (some ⟨w.heap.size + 1 + 1 + 1, 0, none⟩), .pointer (some ⟨w.heap.size + 1 + 1 + 1 + 1, 0, none⟩), v, undef, undef,
      .agg #[.int .i64 d.k, .string d.op, .string d.st, .float .f64 d.nm, .bool d.fl, .slice A6 t.kids.length c6, .int .i64 d.ps], .func (.func 22) #[] #[.pointer (some ⟨w.heap.size + 5, 0, none⟩)], v, undef, undef, undef, undef, undef, undef, undef, undef, undef, undef, undef, undef, undef, undef, undef, undef, undef], defers := [] }) ?assign ?body ?done ?stop
  case assign =>
    intro l v W K hK
    gi_wp2
    exact hK
  case body =>
    rintro l k v W hk hI hsz ⟨g, cap, cur, q, rfl, h2, h3, h4, h5, h6⟩
    have hz := Tr.szs_le t (k + 1)
    rw [Tr.szs] at hz
    have hg0 : W.grownBy W (some (w.heap.size + 1 + 1 + 1)) := ⟨rfl, rfl, rfl, Nat.le_refl _, fun _ _ _ => rfl⟩
    have hMB0 : MB t w W k 0 W := ⟨by simpa using hI.s, hg0⟩
    have Z6 := Lib.hid z6
    clear hit z6 bw hM0
    gi_wp2
    gi_loopw [14] (fun j wr => ∃ j0 : Nat, j = .int .i64 j0 ∧ j0 ≤ (Tr.lev t k).length ∧ MB t w W k j0 wr) (fun j _ => (Tr.lev t k).length - (intOf j).toNat)
    case atStart => exact ⟨0, rfl, Nat.zero_le _, hMB0⟩
    case round =>
      obtain ⟨j0, rfl, hj0, hB⟩ := hrel
      obtain ⟨f1, f2⟩ := cell1 hB.s
      have hB' := Lib.hid hB
      clear hB hMB0
      by_cases hj : j0 < (Tr.lev t k).length
      · obtain ⟨li, hli⟩ : ∃ li, (Tr.lev t k)[j0]? = some li := ⟨_, List.getElem?_eq_getElem hj⟩
        have hgk : ∀ b, b < W.heap.size → b ≠ w.heap.size + 1 + 1 + 1 → wr.heap[b]? = W.heap[b]? := fun b hb hne => hB'.out.gr.block b hb (fun e => by cases e; exact hne rfl)
        obtain ⟨si, hs1, ⟨A, c, rfl, hmx, -⟩⟩ := h6.2 j0 li hli
        have hcell : wr.cell? ⟨g, j0, none⟩ = some (.slice A li.length c) := by
          rw [List.getElem?_take_of_lt hj] at hs1
          exact (cell_of_row wr g j0 _ _ _ ((hgk g (cell_lt' h3) (by have := Z6.out; omega)).trans h3)).trans (by simpa using hs1)
        have hft := flat_take hli
        have hfl := flat_le (Tr.lev t k) (j0 + 1)
        have hw : wrap64 (((Tr.szs t k + ((Tr.lev t k).take j0).flatten.length : Nat) : Int) + (li.length : Int)) = ((Tr.szs t k + ((Tr.lev t k).take (j0 + 1)).flatten.length : Nat) : Int) := by
          have e9 : Tr.szs t k + ((Tr.lev t k).take j0).flatten.length + li.length = Tr.szs t k + ((Tr.lev t k).take (j0 + 1)).flatten.length := by omega
          rw [wrap_add (by omega), e9]
        have hwj := wrap_succ (j := j0) (by unfold maxLen at h4 ⊢; omega)
        have hNB : MB t w W k (j0 + 1) (wr.setCell ⟨w.heap.size + 1 + 1 + 1, 0, none⟩ (.int .i64 ((Tr.szs t k + ((Tr.lev t k).take (j0 + 1)).flatten.length : Nat) : Int))) := ⟨heap_set1 _ hB'.out.s, grown_set _ hB'.out.gr⟩
        clear hs1 hft hfl hgk
        obtain ⟨a, ha⟩ : ∃ a : Nat, Tr.szs t k + ((Tr.lev t k).take j0).flatten.length = a := ⟨_, rfl⟩
        obtain ⟨b, hb⟩ : ∃ b : Nat, Tr.szs t k + ((Tr.lev t k).take (j0 + 1)).flatten.length = b := ⟨_, rfl⟩
        rw [ha] at f1 hw
        rw [hb] at hw hNB
        clear ha hb
        gi_wp2
        refine ⟨⟨j0 + 1, congrArg _ hwj, hj, hNB⟩, ?_⟩
        rw [hwj]
        exact meas_dec hj
      · have hj1 : j0 = (Tr.lev t k).length := by omega
        have hgk : ∀ b, b < W.heap.size → b ≠ w.heap.size + 1 + 1 + 1 → wr.heap[b]? = W.heap[b]? := fun b hb hne => hB'.out.gr.block b hb (fun e => by cases e; exact hne rfl)
        have e1 := (hgk _ (cell_lt' hI.r1) (by omega)).trans hI.r1
        have e2 := (hgk _ (cell_lt' hI.r2) (by omega)).trans hI.r2
        have e3 := (hgk _ (cell_lt' hI.d) (by omega)).trans hI.d
        have e4 := hB'.out.s
        have hl : Tr.szs t k + ((Tr.lev t k).take j0).flatten.length = Tr.szs t (k + 1) := by rw [hj1, List.take_length]; rfl
        rw [hl] at f1 e4
        have hKp : Kp w.heap.size w6.heap.size W wr := ⟨hB'.out.gr.size, fun b hb h => hgk b hb (by have := Z6.out; omega)⟩
        have hBw : Below w.heap.size w wr := hI.b.trans ⟨hB'.out.gr.os, hB'.out.gr.tape, hB'.out.gr.output, hB'.out.gr.size, fun b hb => hgk b (by have := hI.b.size; omega) (by omega)⟩
        obtain ⟨a1, a2⟩ := cell1 e1
        obtain ⟨a3, a4⟩ := cell1 e2
        obtain ⟨a5, a6⟩ := cell1 e3
        by_cases hbig : 1048576 < Tr.szs t (k + 1)
        · have E1 := Lib.hid e1
          have E2 := Lib.hid e2
          clear e1 e2 e3 e4 a5 a6 hgk
          have hbi : (1048576 : Int) < ((Tr.szs t (k + 1) : Nat) : Int) := by omega
          gi_wp2
          have zz := Z6.out
          have k1 : Kp w.heap.size w6.heap.size wr (wr.setCell ⟨w.heap.size + 1, 0, none⟩ (.int .i64 0)) := Kp.setCell _ (by show _ ≤ w.heap.size + 1; omega) (by show w.heap.size + 1 < _; omega)
          have k2 : Kp w.heap.size w6.heap.size (wr.setCell ⟨w.heap.size + 1, 0, none⟩ (.int .i64 0)) ((wr.setCell ⟨w.heap.size + 1, 0, none⟩ (.int .i64 0)).setCell ⟨w.heap.size + 1 + 1, 0, none⟩ (.int .i64 0)) := Kp.setCell _ (by show _ ≤ w.heap.size + 1 + 1; omega) (by show w.heap.size + 1 + 1 < _; omega)
          refine ⟨(hKp.trans k1).trans k2, rfl, ?_, ?_, ?_, ?_⟩
          · exact (heap_setCell_other _ _ _ _ (by show w.heap.size + 1 ≠ w.heap.size + 1 + 1; omega)).trans (heap_set1 _ E1.out)
          · exact heap_set1 _ ((heap_setCell_other _ _ _ _ (by show w.heap.size + 1 + 1 ≠ w.heap.size + 1; omega)).trans E2.out)
          · exact Nat.lt_of_lt_of_le hbig (Tr.szs_le t (k + 1))
          · exact (hBw.setCell (p := ⟨w.heap.size + 1, 0, none⟩) (Nat.le_succ _) _).setCell (p := ⟨w.heap.size + 1 + 1, 0, none⟩) (by show _ ≤ w.heap.size + 1 + 1; omega) _
        · have hwk : wrap64 ((k : Int) + 1) = ((k + 1 : Nat) : Int) := wrap_succ (by have := depth_le t; unfold maxLen; omega)
          have hbi : ¬ (1048576 : Int) < ((Tr.szs t (k + 1) : Nat) : Int) := by omega
          have E1 := Lib.hid e1
          have E2 := Lib.hid e2
          have E3 := Lib.hid e3
          have E4 := Lib.hid e4
          have hbl : Tr.szs t (k + 1) ≤ 1048576 := Nat.le_of_not_lt hbig
          clear a1 a2 a3 a4 hgk e1 e2 e3 e4
          gi_wp2
          have zz := Z6.out
          rw [show ((k : Int) + 1) = ((k + 1 : Nat) : Int) from rfl]
          refine ⟨hKp.trans (Kp.setCell _ (by show _ ≤ w.heap.size + 1 + 1 + 1 + 1; omega) (by show w.heap.size + 1 + 1 + 1 + 1 < _; omega)), ?_, heap_set1 _ E3.out, ?_, ?_, hbl, hBw.setCell (p := ⟨w.heap.size + 1 + 1 + 1 + 1, 0, none⟩) (by show _ ≤ w.heap.size + 1 + 1 + 1 + 1; omega) _⟩
          · exact (heap_setCell_other _ _ _ _ (by show w.heap.size + 1 + 1 + 1 ≠ w.heap.size + 1 + 1 + 1 + 1; omega)).trans E4.out
          · exact (heap_setCell_other _ _ _ _ (by show w.heap.size + 1 ≠ w.heap.size + 1 + 1 + 1 + 1; omega)).trans E1.out
          · exact (heap_setCell_other _ _ _ _ (by show w.heap.size + 1 + 1 ≠ w.heap.size + 1 + 1 + 1 + 1; omega)).trans E2.out
  case done =>
    rintro D W hD hI hd
    obtain ⟨a1, a2⟩ := cell1 hI.r1
    obtain ⟨a3, a4⟩ := cell1 hI.r2
    obtain ⟨a5, a6⟩ := cell1 hI.s
    obtain ⟨a7, a8⟩ := cell1 hI.d
    gi_wp2
    have R1 := Lib.hid hI.r1
    have R2 := Lib.hid hI.r2
    have RB := Lib.hid hI.b
    have RL := Lib.hid hI.le
    have HD := Lib.hid hd
    have HZ := Lib.hid z6
    have HDD := Lib.hid hD
    clear hI hd hD z6 hM0 hit bw
    gi_region
    gi_wp2
    obtain ⟨W2, hW2⟩ : ∃ W2, (W.setCell ⟨w.heap.size + 1, 0, none⟩ (.int .i64 (Tr.szs t t.depth : Nat))).setCell ⟨w.heap.size + 1 + 1, 0, none⟩ (.int .i64 (t.depth : Nat)) = W2 := ⟨_, rfl⟩
    rw [hW2]
    have y1 : W2.heap[w.heap.size + 1]? = some (.cells #[.int .i64 (Tr.szs t t.depth : Nat)] 3 (0, 0)) := by
      rw [← hW2]
      exact (heap_setCell_other _ _ _ _ (by show w.heap.size + 1 ≠ w.heap.size + 1 + 1; omega)).trans (heap_set1 _ R1.out)
    have y2 : W2.heap[w.heap.size + 1 + 1]? = some (.cells #[.int .i64 (t.depth : Nat)] 3 (0, 0)) := by
      rw [← hW2]
      exact heap_set1 _ ((heap_setCell_other _ _ _ _ (by show w.heap.size + 1 + 1 ≠ w.heap.size + 1; omega)).trans R2.out)
    have yb : Below w.heap.size w W2 := by
      rw [← hW2]
      exact (RB.out.setCell (p := ⟨w.heap.size + 1, 0, none⟩) (Nat.le_succ _) _).setCell (p := ⟨w.heap.size + 1 + 1, 0, none⟩) (by show _ ≤ w.heap.size + 1 + 1; omega) _
    have hD1 : w.heap.size + 6 ≤ D := by have := HZ.out; have := HDD.out; omega
    have hd2 : W2.drew.heap[D]? = some (.deferred (some [])) := by
      show W2.heap[D]? = _
      rw [← hW2]
      exact (heap_setCell_other _ _ _ _ (by show D ≠ w.heap.size + 1 + 1; omega)).trans ((heap_setCell_other _ _ _ _ (by show D ≠ w.heap.size + 1; omega)).trans HD.out)
    refine ⟨by simp, .inl ⟨_, _, rfl, run_takeDeferred hd2, ?_⟩⟩
    have p1 : (W2.drew.putObj D (.deferred none)).cell? ⟨w.heap.size + 1, 0, none⟩ = some (.int .i64 (Tr.szs t t.depth : Nat)) := (World.cell?_of_block (World.putObj_heap_other (by show w.heap.size + 1 ≠ D; omega))).trans (cell1 (W := W2) y1).1
    have p2 : (W2.drew.putObj D (.deferred none)).cell? ⟨w.heap.size + 1 + 1, 0, none⟩ = some (.int .i64 (t.depth : Nat)) := (World.cell?_of_block (World.putObj_heap_other (by show w.heap.size + 1 + 1 ≠ D; omega))).trans (cell1 (W := W2) y2).1
    refine ⟨_, results_cc rfl _ _ _ _ _ _ _ rfl rfl (load_int p1) (load_int p2), ?_, yb.drew.trans (below_put _ _ (by omega))⟩
    have hl := RL.out
    rw [Tr.szs_all] at hl ⊢
    rw [← HR.out, if_neg (by omega)]
  case stop =>
    rintro D c k W hD hk ⟨rfl, hX⟩ hd
    obtain ⟨a1, a2⟩ := cell1 hX.r1
    obtain ⟨a3, a4⟩ := cell1 hX.r2
    gi_wp2
    refine ⟨by simp, .inl ⟨_, _, rfl, run_takeDeferred hd, ?_⟩⟩
    have hDm := (cell_lt' hd)
    have hD1 : w.heap.size + 6 ≤ D := by omega
    have p1 : (W.putObj D (.deferred none)).cell? ⟨w.heap.size + 1, 0, none⟩ = some (.int .i64 0) := (World.cell?_of_block (World.putObj_heap_other (by show w.heap.size + 1 ≠ D; omega))).trans a1
    have p2 : (W.putObj D (.deferred none)).cell? ⟨w.heap.size + 1 + 1, 0, none⟩ = some (.int .i64 0) := (World.cell?_of_block (World.putObj_heap_other (by show w.heap.size + 1 + 1 ≠ D; omega))).trans a3
    refine ⟨_, results_cc rfl _ _ _ _ _ _ _ rfl rfl (load_int p1) (load_int p2), ?_, hX.b.trans (below_put _ _ (by omega))⟩
    rw [← HR.out, if_pos hX.le]
end Go.Proofs.YtfpmhahjemdodaaGreatDoor
