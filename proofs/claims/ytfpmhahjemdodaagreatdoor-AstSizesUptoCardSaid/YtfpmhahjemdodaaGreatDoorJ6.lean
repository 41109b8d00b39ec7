/-
  The program's iterator over a tree's levels.
-/
import Derived.Test.YtfpmhahjemdodaaGreatDoorMqaa
import Derived.Test.YtfpmhahjemdodaaGreatDoorProg
import Derived.RangeFuncNested
import Derived.RangeFuncBound
import Derived.Shelf.Abstract
import Derived.Shelf.RegionOpen
import Derived.WalkKit
import Derived.TacticsInMore
import Derived.LoopNIn
import Derived.LoopIn
import Derived.Deep.LoopGhost
import Derived.Maps.AppendAt
import Derived.Maps.OwnIn
import Derived.Lib.Hide
namespace Go.Proofs.YtfpmhahjemdodaaGreatDoor
open Go.RowKit Go.Shelf
attribute [local go_sem] Oper.semAt_some
theorem stFl {P : Program} (a : Addr) (n : Nat) (m : Mode) (w : World) : (store a (.float .f64 n) m).run P w = stored P w a (.float .f64 n) m := run_store P w a _ m rfl
attribute [local go_sem] stFl
/-- The blocks of a tree: those ahead of n, and the one that holds its root. -/
def blk (n g : Nat) (b : Nat) : Prop := b < n ∨ b = g
/-- Lists, and the cells of a row that holds them as slices. -/
def Cel (p : Nat → Prop) (W : World) (L : List (List Tn)) (cs : List Value) : Prop :=
  cs.length = L.length ∧ ∀ (i : Nat) (l : List Tn), L[i]? = some l → ∃ s, cs[i]? = some s ∧ AtS p W l s
theorem Cel.keep {p : Nat → Prop} {W W' : World} {L : List (List Tn)} {cs : List Value} (h : Cel p W L cs) (hk : Same p W W') : Cel p W' L cs :=
  ⟨h.1, fun i l hi => by obtain ⟨s, h1, h2⟩ := h.2 i l hi; exact ⟨s, h1, h2.keep hk⟩⟩
theorem Cel.snoc {p : Nat → Prop} {W : World} {L : List (List Tn)} {cs : List Value} {l : List Tn} {s : Value} (h : Cel p W L cs) (hs : AtS p W l s) : Cel p W (L ++ [l]) (cs ++ [s]) := by
  refine ⟨by simp [h.1], fun i l' hi => ?_⟩
  by_cases hlt : i < L.length
  · rw [List.getElem?_append_left hlt] at hi
    obtain ⟨s', h1, h2⟩ := h.2 i l' hi
    exact ⟨s', by rw [List.getElem?_append_left (by rw [h.1]; exact hlt)]; exact h1, h2⟩
  · rw [List.getElem?_append_right (by omega)] at hi
    have h0 : i = L.length := by
      rcases Nat.lt_or_ge (i - L.length) 1 with h' | h'
      · omega
      · rw [List.getElem?_eq_none (by simpa using h')] at hi; cases hi
    subst h0
    simp at hi
    subst hi
    exact ⟨s, by rw [List.getElem?_append_right (by rw [h.1]; exact Nat.le_refl _)]; simp [h.1], hs⟩
/-- A slice of slices of nodes, as a round is handed it. -/
def LevS (n s : Nat) (W : World) (L : List (List Tn)) (v : Value) : Prop :=
  ∃ g cap cur q, v = .slice (some ⟨g, 0, none⟩) L.length cap ∧ s ≤ g ∧ W.heap[g]? = some (.cells cur 23 (0, 0)) ∧ L.length ≤ maxLen ∧ s ≤ q ∧ Cel (blk n q) W L (cur.toList.take L.length)
/-- The k-th item of the levels of t. -/
def LevX (n : Nat) (t : Tn) (s k : Nat) (W : World) (v : Value) : Prop := LevS n s W (Tr.lev t k) v
/-- The lists of Kids, but for empty ones, of some nodes. -/
def NE (l : List Tn) : List (List Tn) := (l.map Tr.kids).filter (fun l => !l.isEmpty)
theorem lower_NE (L : List (List Tn)) : Tr.lower L = NE L.flatten := rfl
theorem NE_append (a b : List Tn) : NE (a ++ b) = NE a ++ NE b := by simp [NE]
theorem NE_len (l : List Tn) : (NE l).length ≤ l.length := by
  unfold NE
  exact Nat.le_trans (List.length_filter_le _ _) (by simp)
theorem NE_snoc {l : List Tn} {j : Nat} {x : Tn} (h : l[j]? = some x) : NE (l.take (j + 1)) = NE (l.take j) ++ if x.kids.isEmpty then [] else [x.kids] := by
  rw [List.take_add_one, h, NE_append]
  cases hk : x.kids.isEmpty <;> simp [NE, hk]
theorem low_snoc {L : List (List Tn)} {i : Nat} {l : List Tn} (h : L[i]? = some l) : Tr.lower (L.take (i + 1)) = Tr.lower (L.take i) ++ NE l := by
  rw [List.take_add_one, h, lower_NE, lower_NE, List.flatten_append, NE_append]
  simp
theorem lev_len (t : Tn) (k : Nat) : (Tr.lev t (k + 1)).length ≤ t.size := by
  rw [Tr.lev, lower_NE]
  have h1 := NE_len (Tr.lev t k).flatten
  have h2 := Tr.szs_le t (k + 1)
  rw [Tr.szs] at h2
  omega
theorem cell_lt' {w : World} {g : Nat} {o : Obj} (h : w.heap[g]? = some o) : g < w.heap.size := (Array.getElem?_eq_some_iff.1 h).1
/-- A row of one's own, written out. -/
structure Rw (s : Nat) (w : World) (g m cap : Nat) (cur : Array Value) : Prop where
  lo : s ≤ g
  at' : w.heap[g]? = some (.cells cur 23 (0, 0))
  le : m ≤ cap
  max : cap ≤ maxLen
  size : cur.size = cap
theorem Rw.owns {s : Nat} {w : World} {g m cap : Nat} {cur : Array Value} (h : Rw s w g m cap cur) : w.ownsRow s 23 1 (.slice (some ⟨g, 0, none⟩) m cap) m (cur.toList.take m) := by
  refine ⟨?_, .inr ⟨g, cap, cur, rfl, h.lo, h.at', h.le, h.max, by rw [h.size]; omega, by rw [Nat.mul_one]⟩⟩
  have h1 := h.size
  have h2 := h.le
  rw [List.length_take, Array.length_toList]
  omega
theorem Rw.keep {s : Nat} {w w' : World} {g m cap : Nat} {cur : Array Value} (h : Rw s w g m cap cur) (k : w'.heap[g]? = w.heap[g]?) : Rw s w' g m cap cur := ⟨h.lo, k.trans h.at', h.le, h.max, h.size⟩
/-- The row of the next level as far as it has come: C. -/
structure LvB (n S g4 : Nat) (W3 : World) (C : List (List Tn)) (v5 : Value) (w : World) : Prop where
  go : ∃ g5 cap5 cur5, v5 = .slice (some ⟨g5, 0, none⟩) C.length cap5 ∧ Rw (S + 1) w g5 C.length cap5 cur5 ∧ Cel (blk n S) w C (cur5.toList.take C.length) ∧ (g5 = g4 ∨ W3.heap.size ≤ g5)
  gr : W3.grownBy w (some g4)
theorem cap_len {L : List (List Tn)} {i j : Nat} {l : List Tn} (h : L[i]? = some l) (hj : j ≤ l.length) : (Tr.lower (L.take i) ++ NE (l.take j)).length + (l.length - j) ≤ L.flatten.length := by
  have h1 := NE_len (L.take i).flatten
  have h2 := NE_len (l.take j)
  have h3 : (L.take (i + 1)).flatten.length ≤ L.flatten.length := by
    conv => rhs; rw [← List.take_append_drop (i + 1) L, List.flatten_append]
    simp
  rw [List.take_add_one, h, List.flatten_append] at h3
  rw [List.length_append, lower_NE]
  rw [List.length_append] at h3
  have h4 : (l.take j).length = j := by rw [List.length_take]; omega
  have h5 : (Option.toList (some l)).flatten.length = l.length := by simp
  omega
theorem cell_two (w : World) (X : Obj) (v : Value) (T : TypeId) (j : Nat) (u : Value) (hu : [v][j]? = some u) : ((w.alloc X).alloc (.cells #[v] T)).cell? ((⟨w.heap.size + 1, 0, none⟩ : Addr).add j) = some u := by
  cases j with
  | zero =>
    obtain rfl := Option.some.inj hu
    have h := World.alloc_heap_new (w.alloc X) (.cells #[v] T)
    rw [World.size_alloc] at h
    exact cell_of_row _ _ 0 _ _ _ h
  | succ j => simp at hu
theorem Rw.of_owns {s k g cap : Nat} {w : World} {xs : List Value} (h : w.ownsRow s 23 1 (.slice (some ⟨g, 0, none⟩) (k + 1) cap) (k + 1) xs) : ∃ cur, Rw s w g (k + 1) cap cur ∧ cur.toList.take (k + 1) = xs := by
  rcases h.2 with ⟨h0, _⟩ | ⟨g', cap', cur, e, h1, h2, h3, h4, h5, h6⟩
  · cases h0
  · cases e
    exact ⟨cur, ⟨h1, h2, h3, h4, by omega⟩, by rw [Nat.mul_one] at h6; exact h6⟩
theorem wrap_succ {j : Nat} (h : j < maxLen) : wrap64 ((j : Int) + 1) = ((j + 1 : Nat) : Int) := by
  unfold maxLen at h
  unfold wrap64
  omega
theorem heap_alloc2 (w : World) (X Y : Obj) {b : Nat} (h : b < w.heap.size) : ((w.alloc X).alloc Y).heap[b]? = w.heap[b]? :=
  (Below.heap_alloc _ _ _ (by rw [World.size_alloc]; omega)).trans (Below.heap_alloc _ _ _ h)
/-- One list more. -/
theorem LvB.more {n S g4 : Nat} {W3 w w' : World} {C : List (List Tn)} {g6 cap6 : Nat} {cur6 : Array Value} {l : List Tn} {s v : Value} {X Y : Obj} (hn : n ≤ S)
    (q6 : Rw (S + 1) w g6 C.length cap6 cur6) (hc : Cel (blk n S) w C (cur6.toList.take C.length)) (hg : g6 = g4 ∨ W3.heap.size ≤ g6) (hgr : W3.grownBy w (some g4)) (hs : AtS (blk n S) w l s) (_hS : S < g4) (_hSw : S < W3.heap.size)
    (hown : w'.ownsRow (S + 1) 23 1 v (C.length + 1) (cur6.toList.take C.length ++ [s])) (hgrow : ((w.alloc X).alloc Y).grownBy w' (some g6)) (hv : v.ownBlock = some g6 ∨ v.ownBlock = some ((w.alloc X).alloc Y).heap.size) :
    LvB n S g4 W3 (C ++ [l]) v w' := by
  obtain ⟨g7, cap7, rfl⟩ := ownsRow_succ hown
  obtain ⟨cur, r1, r2⟩ := Rw.of_owns hown
  have z : ((w.alloc X).alloc Y).heap.size = w.heap.size + 2 := by rw [World.size_alloc, World.size_alloc]
  have zw := hgr.size
  have hlo := q6.lo
  have hk : ∀ b, b < w.heap.size → b ≠ g6 → w'.heap[b]? = w.heap[b]? := fun b hb hne => (hgrow.block b (by omega) (fun e => by cases e; exact hne rfl)).trans (heap_alloc2 _ _ _ hb)
  have hsm : Same (blk n S) w w' := fun b hb hl => hk b hl (by rcases hb with hb | hb <;> omega)
  have e1 : (C ++ [l]).length = C.length + 1 := by simp
  refine ⟨⟨g7, cap7, cur, by rw [e1], by rw [e1]; exact r1, ?_, ?_⟩, ⟨?_, ?_, ?_, ?_, fun b hb hne => ?_⟩⟩
  · rw [e1, r2]
    exact (hc.keep hsm).snoc (hs.keep hsm)
  · rcases hv with h | h
    · obtain rfl : g7 = g6 := Option.some.inj h
      exact hg
    · have : g7 = _ := Option.some.inj h
      exact .inr (by omega)
  · exact hgrow.os.trans hgr.os
  · exact hgrow.tape.trans hgr.tape
  · exact hgrow.output.trans hgr.output
  · have := hgrow.size
    omega
  · have hb4 : b ≠ g4 := fun e => hne (by rw [e])
    exact (hk b (by omega) (by rcases hg with h | h <;> omega)).trans (hgr.block b hb hne)
theorem LvB.same {n S g4 : Nat} {W3 w : World} {C : List (List Tn)} {g6 cap6 : Nat} {cur6 : Array Value} {X : Obj} (_hn : n ≤ S)
    (q6 : Rw (S + 1) w g6 C.length cap6 cur6) (hc : Cel (blk n S) w C (cur6.toList.take C.length)) (hg : g6 = g4 ∨ W3.heap.size ≤ g6) (hgr : W3.grownBy w (some g4)) (_hSw : S < W3.heap.size) :
    LvB n S g4 W3 C (.slice (some ⟨g6, 0, none⟩) C.length cap6) (w.alloc X) := by
  have zw := hgr.size
  have hk : ∀ b, b < w.heap.size → (w.alloc X).heap[b]? = w.heap[b]? := fun b hb => Below.heap_alloc _ _ _ hb
  refine ⟨⟨g6, cap6, cur6, rfl, q6.keep (hk _ (cell_lt' q6.at')), hc.keep (fun b _ hl => hk b hl), hg⟩, ⟨hgr.os, hgr.tape, hgr.output, by rw [World.size_alloc]; omega, fun b hb hne => (hk b (by omega)).trans (hgr.block b hb hne)⟩⟩
/-- What holds ahead of a round of the levels: m rounds are left. -/
structure LvI (n S : Nat) (t : Tn) (J : Nat → World → Prop) (m : Nat) (v3 v4 : Value) (w : World) : Prop where
  go : ∃ k g3 cap3 cur3 g4 m4 cap4 cur4, m + k = t.depth ∧ v3 = .slice (some ⟨g3, 0, none⟩) (Tr.lev t k).length cap3 ∧ v4 = .slice (some ⟨g4, 0, none⟩) m4 cap4 ∧
    Rw (S + 1) w g3 (Tr.lev t k).length cap3 cur3 ∧ Rw (S + 1) w g4 m4 cap4 cur4 ∧ g3 ≠ g4 ∧ Cel (blk n S) w (Tr.lev t k) (cur3.toList.take (Tr.lev t k).length) ∧ J k w ∧ S ≤ w.heap.size
set_option maxRecDepth 100000 in
set_option maxHeartbeats 2000000 in
theorem levels1_in (n : Nat) (t : Tn) (l Bn : Nat) (J Jx : Nat → World → Prop) (W : World) (cs : List Value) (hn : n ≤ W.heap.size)
    (hc : W.heap[Bn]? = some (.cells cs.toArray 25 (0, 0))) (ht : At (fun b => b < n) W t cs)
    (hJ : ∀ k A B, J k A → W.heap.size ≤ A.heap.size → Below W.heap.size A B → J k B)
    (hY : ∀ k W1 v, k < t.depth → J k W1 → W.heap.size ≤ W1.heap.size → LevX n t W.heap.size k W1 v → YieldAt Fence.wide 0 Tryz.prog l #[v] W1 fun e W' =>
      (e = .returned (.bool true) ∧ J (k + 1) W' ∧ Kp n W.heap.size W1 W') ∨ (e = .returned (.bool false) ∧ Jx k W' ∧ Kp n W.heap.size W1 W'))
    (h0 : J 0 W) (h24 : t.size ≤ 4398046511103) :
    CallsIn Fence.wide 0 Tryz.prog 22 #[.func (.yield l) #[] #[], .pointer (some ⟨Bn, 0, none⟩)] W fun e W' => (∃ v, e = .returned v) ∧ (J t.depth W' ∨ ∃ k, k < t.depth ∧ Jx k W') := by
  refine callsIn_of_wp Tryz.func22 rfl trivial ?_ rfl
  simp only [Tryz.ntmps22, List.size_toArray, List.length_cons, List.length_nil, Nat.reduceAdd, Nat.reduceSub, Array.replicate_succ, Array.replicate_zero, List.push_toArray, List.append_toArray, List.nil_append, List.cons_append]
  obtain ⟨s, rfl, hS⟩ := at_parts ht
  generalize Tr.datum t = d at *
  have c0 : W.cell? ⟨Bn, 0, none⟩ = some (.int .i64 d.k) := by simp [World.cell?, hc, celN]
  have c1 : W.cell? ⟨Bn, 1, none⟩ = some (.string d.op) := by simp [World.cell?, hc, celN]
  have c2 : W.cell? ⟨Bn, 2, none⟩ = some (.string d.st) := by simp [World.cell?, hc, celN]
  have c3 : W.cell? ⟨Bn, 3, none⟩ = some (.float .f64 d.nm) := by simp [World.cell?, hc, celN]
  have c4 : W.cell? ⟨Bn, 4, none⟩ = some (.bool d.fl) := by simp [World.cell?, hc, celN]
  have c5 : W.cell? ⟨Bn, 5, none⟩ = some s := by simp [World.cell?, hc, celN]
  have c6 : W.cell? ⟨Bn, 6, none⟩ = some (.int .i64 d.ps) := by simp [World.cell?, hc, celN]
  have hz0 : 0 < t.depth := Tr.depth_pos t
  gi_wp2
  obtain ⟨W1, hW1⟩ : ∃ W1, W.alloc (.cells #[.int .i64 d.k, .string d.op, .string d.st, .float .f64 d.nm, .bool d.fl, s, .int .i64 d.ps] 25) = W1 := ⟨_, rfl⟩
  rw [hW1]
  obtain ⟨W2, hW2⟩ : ∃ W2, W1.alloc (.cells #[.slice (some ⟨W.heap.size, 0, none⟩) 1 1] 23) = W2 := ⟨_, rfl⟩
  rw [hW2]
  obtain ⟨W3, hW3⟩ : ∃ W3, W2.alloc (.cells #[] 23) = W3 := ⟨_, rfl⟩
  rw [hW3]
  have hst : LvI n W.heap.size t J t.depth (.slice (some ⟨W.heap.size + 1, 0, none⟩) 1 1) (.slice (some ⟨W.heap.size + 1 + 1, 0, none⟩) 0 0) W3 := by
    have z1 : W1.heap.size = W.heap.size + 1 := by rw [← hW1]; simp
    have z2 : W2.heap.size = W.heap.size + 2 := by rw [← hW2]; simp [z1]
    have z3 : W3.heap.size = W.heap.size + 3 := by rw [← hW3]; simp [z2]
    have b1 : Below W.heap.size W W1 := by rw [← hW1]; exact (Below.refl _ _).alloc (Nat.le_refl _) _
    have b2 : Below (W.heap.size + 1) W1 W2 := by rw [← hW2, ← z1]; exact (Below.refl _ _).alloc (Nat.le_refl _) _
    have b3 : Below (W.heap.size + 2) W2 W3 := by rw [← hW3, ← z2]; exact (Below.refl _ _).alloc (Nat.le_refl _) _
    have bb : Below W.heap.size W W3 := (b1.trans (b2.mono (by omega))).trans (b3.mono (by omega))
    have e1 : W3.heap[W.heap.size]? = some (.cells (celN d s).toArray 25 (0, 0)) := by
      rw [b3.block _ (by omega), b2.block _ (by omega), ← hW1]
      exact World.alloc_heap_new _ _
    have e2 : W3.heap[W.heap.size + 1]? = some (.cells #[.slice (some ⟨W.heap.size, 0, none⟩) 1 1] 23 (0, 0)) := by
      rw [b3.block _ (by omega), ← hW2, ← z1]
      exact World.alloc_heap_new _ _
    have e3 : W3.heap[W.heap.size + 1 + 1]? = some (.cells #[] 23 (0, 0)) := by
      rw [← hW3, show W.heap.size + 1 + 1 = W2.heap.size by omega]
      exact World.alloc_heap_new _ _
    refine ⟨0, W.heap.size + 1, 1, _, W.heap.size + 1 + 1, 0, 0, _, by omega, rfl, rfl, ⟨by omega, e2, Nat.le_refl _, by unfold maxLen; omega, rfl⟩, ⟨by omega, e3, Nat.le_refl _, by unfold maxLen; omega, rfl⟩, by omega, ?_, hJ _ _ _ h0 (Nat.le_refl _) bb, by omega⟩
    refine ⟨rfl, fun i l hi => ?_⟩
    cases i with
    | succ i => simp [Tr.lev] at hi
    | zero =>
      obtain rfl : [t] = l := by simpa [Tr.lev] using hi
      refine ⟨_, rfl, some ⟨W.heap.size, 0, none⟩, 1, rfl, by unfold maxLen; simp, fun _ => ⟨_, _, rfl, .inr rfl, ?_⟩⟩
      rw [AtL, AtL]
      refine ⟨⟨celN d s, fun j v hv => ?_, ?_⟩, trivial⟩
      · have e4 := cell_of_row W3 W.heap.size (0 + j) _ _ _ e1
        rw [e4]
        simpa using hv
      · exact At.imp (fun b hb => .inl hb) _ _ (At.keep (Same.below (bb.mono hn)) _ _ ht)
  have b0 : W.heap.size ≤ W.heap.size := Nat.le_refl _
  clear hW1 hW2 hW3 c0 c1 c2 c3 c4 c5 c6 hc ht hS h0
  generalize W.heap.size = S at *
  gi_loopw [3, 4] (fun v3 v4 wr => ∃ m, LvI n S t J m v3 v4 wr) (fun v3 v4 wr => leastOf (fun m => LvI n S t J m v3 v4 wr))
  case atStart => exact ⟨_, hst⟩
  case round =>
    have hs := leastOf_spec hrel
    obtain ⟨m, hm0⟩ : ∃ m, leastOf (fun m => LvI n S t J m u3 u4 wr) = m := ⟨_, rfl⟩
    rw [hm0] at hs
    have hM := Lib.hid hm0
    obtain ⟨⟨k, g3, cap3, cur3, g4, m4, cap4, cur4, hk, rfl, rfl, r3, r4, hne, hcel, hj, hsz⟩⟩ := hs.1
    clear hs hm0 hrel hst
    by_cases hd : k < t.depth
    · have hne0 : Tr.lev t k ≠ [] := fun e => by have := Tr.lev_none.1 e; omega
      have hN : 0 < (Tr.lev t k).length := List.length_pos_iff.2 hne0
      obtain ⟨fn, tmps, assign, body, hy, hR⟩ := hY k wr _ hd hj hsz ⟨g3, cap3, cur3, S, rfl, by have := r3.lo; omega, r3.at', Nat.le_trans r3.le r3.max, Nat.le_refl _, hcel⟩
      gi_wp2
      refine ⟨rfl, hR.mono ?_⟩
      rintro e W3 (⟨rfl, hJ3, hk3⟩ | ⟨rfl, hJx3, hk3⟩)
      · have q3 := r3.keep (hk3.same g3 (cell_lt' r3.at') (.inr (by have := r3.lo; omega)))
        have q4 := r4.keep (hk3.same g4 (cell_lt' r4.at') (.inr (by have := r4.lo; omega)))
        have hcel3 := hcel.keep (W' := W3) (fun b hb hl => hk3.same b hl (hb.imp id fun e => by omega))
        have hsz3 : S ≤ W3.heap.size := Nat.le_trans hsz hk3.size
        clear hy hR hcel r3 r4 hk3 hj hsz fn tmps assign body
        gi_wp2
        have hg : W3.grownBy W3 (some g4) := ⟨rfl, rfl, rfl, Nat.le_refl _, fun _ _ _ => rfl⟩
        gi_loopw [5, 26] (fun v5 i w2 => ∃ i0 : Nat, i = .int .i64 i0 ∧ i0 ≤ (Tr.lev t k).length ∧ LvB n S g4 W3 (Tr.lower ((Tr.lev t k).take i0)) v5 w2) (fun _ i _ => (Tr.lev t k).length - (intOf i).toNat)
        case atStart =>
          exact ⟨0, rfl, Nat.zero_le _, ⟨g4, cap4, cur4, by simp [lower_NE, NE], ⟨q4.lo, q4.at', by simp [lower_NE, NE], q4.max, q4.size⟩, ⟨by simp [lower_NE, NE], fun i l hi => by simp [lower_NE, NE] at hi⟩, .inl rfl⟩, hg⟩
        case round =>
          obtain ⟨i0, rfl, hi0, ⟨⟨g5, cap5, cur5, rfl, q5, hc5, hg5⟩, hgr⟩⟩ := hrel
          have hS4 := q4.lo
          have hSw : S < W3.heap.size := by have := cell_lt' q4.at'; omega
          have hsm : Same (blk n S) W3 wr := fun b hb hl => hgr.block b hl (fun e => by cases e; rcases hb with hb | hb <;> omega)
          have q3w := q3.keep (hgr.block g3 (cell_lt' q3.at') (fun e => by cases e; exact hne rfl))
          by_cases hlt : i0 < (Tr.lev t k).length
          · obtain ⟨li, hli⟩ : ∃ li, (Tr.lev t k)[i0]? = some li := ⟨_, List.getElem?_eq_getElem hlt⟩
            obtain ⟨si, hs1, hs2⟩ := (hcel3.keep hsm).2 i0 li hli
            obtain ⟨A, c, rfl, hmx, hnn⟩ := hs2
            have hcell : wr.cell? ⟨g3, i0, none⟩ = some (.slice A li.length c) := by
              have hs2 := hs1
              rw [List.getElem?_take_of_lt hlt] at hs2
              exact (cell_of_row wr g3 i0 _ _ _ q3w.at').trans (by simpa using hs2)
            obtain ⟨b, o, rfl, hpb, -⟩ := hnn (Tr.lev_full t k li (List.mem_of_getElem? hli))
            gi_wp2
            gi_loopw [5, 32] (fun v5 j w4 => ∃ j0 : Nat, j = .int .i64 j0 ∧ j0 ≤ li.length ∧ LvB n S g4 W3 (Tr.lower ((Tr.lev t k).take i0) ++ NE (li.take j0)) v5 w4) (fun _ j _ => li.length - (intOf j).toNat)
            case atStart =>
              refine ⟨0, rfl, Nat.zero_le _, ?_⟩
              rw [show NE (li.take 0) = [] by simp [NE], List.append_nil]
              exact ⟨⟨g5, cap5, cur5, rfl, q5, hc5, hg5⟩, hgr⟩
            case round =>
              clear q5 hc5 hg5 hgr hsm q3w hcell
              obtain ⟨j0, rfl, hj0, ⟨⟨g6, cap6, cur6, rfl, q6, hc6, hg6⟩, hgr⟩⟩ := hrel
              have hsm : Same (blk n S) W3 wr := fun b hb hl => hgr.block b hl (fun e => by cases e; rcases hb with hb | hb <;> omega)
              by_cases hjl : j0 < li.length
              · obtain ⟨x, hx⟩ : ∃ x, li[j0]? = some x := ⟨_, List.getElem?_eq_getElem hjl⟩
                obtain ⟨si, hs2, hs3⟩ := (hcel3.keep hsm).2 i0 li hli
                obtain rfl := Option.some.inj (hs1.symm.trans hs2)
                obtain ⟨b', o', s6, e1, -, -, hr, hk6⟩ := hs3.nth hx
                have hk7 := hk6
                obtain ⟨A6, c6, rfl, hm6, -⟩ := hk7
                cases e1
                clear hs2 hs3
                have k0 : wr.cell? ⟨b, o + j0 * 7, none⟩ = some (.int .i64 x.datum.k) := hr 0 _ rfl
                have k1 := hr 1 _ rfl
                have k2 := hr 2 _ rfl
                have k3 := hr 3 _ rfl
                have k4 := hr 4 _ rfl
                have k5 := hr 5 _ rfl
                have k6 := hr 6 _ rfl
                clear hr
                by_cases hkz : x.kids = []
                · have hkl : x.kids.length = 0 := by rw [hkz]; rfl
                  rw [hkl] at k5
                  have hLB : ∀ X, LvB n S g4 W3 (Tr.lower ((Tr.lev t k).take i0) ++ NE (li.take (j0 + 1))) (.slice (some ⟨g6, 0, none⟩) (Tr.lower ((Tr.lev t k).take i0) ++ NE (li.take j0)).length cap6) (wr.alloc X) := fun X => by
                    rw [NE_snoc hx, hkz, show (if ([] : List Tn).isEmpty = true then [] else [([] : List Tn)]) = [] from rfl, List.append_nil]
                    exact LvB.same hn q6 hc6 hg6 hgr hSw
                  gi_wp2
                  refine ⟨⟨j0 + 1, congrArg _ (wrap_succ (by omega)), by omega, hLB _⟩, ?_⟩
                  rw [wrap_succ (by omega)]
                  simp only [intOf]
                  omega
                · have hkp : 0 < x.kids.length := List.length_pos_iff.2 hkz
                  obtain ⟨ifo, hi, hi0, hi1, hi2⟩ := info_parts (show (Tryz.prog.info? 23).map (fun i => (i.zero, i.size, i.bytes)) = some (some (.slice none 0 0), 1, 24) by kernel_rfl)
                  have hle := cap_len hli hj0
                  have hsz9 := Tr.szs_le t (k + 1)
                  rw [Tr.szs] at hsz9
                  obtain ⟨C, hC⟩ : ∃ C, Tr.lower ((Tr.lev t k).take i0) ++ NE (li.take j0) = C := ⟨_, rfl⟩
                  rw [hC] at q6 hc6 hle ⊢
                  have hC2 := Lib.hid hC
                  clear hC
                  have hb1 : C.length + 1 ≤ 4398046511104 := by omega
                  gi_wp2_with (gi_at_builtin; refine wpListIn_append_own_at _ rfl _ _ 40 rfl (S + 1) 23 ifo (.slice none 0 0) 1 24 Tryz.underlying40 hi hi0 hi1 hi2 rfl (by decide) _ _ _ rfl ((q6.owns.alloc _).alloc _) ⟨wr.heap.size + 1, 0, none⟩ 1 1 [.slice A6 x.kids.length c6] rfl rfl (cell_two _ _ _ _) (by simp [Value.oneCell']) (by unfold maxLen; omega) (by omega) (by rw [World.size_alloc, World.size_alloc]; have := cell_lt' q6.at'; have := q6.lo; omega) ?_; intro v' w' hown hgrow _ hv)
                  have hLB : LvB n S g4 W3 (Tr.lower ((Tr.lev t k).take i0) ++ NE (li.take (j0 + 1))) v' w' := by
                    have he : x.kids.isEmpty = false := by cases hq : x.kids.isEmpty <;> simp_all
                    rw [NE_snoc hx, he, ← List.append_assoc, hC2.out]
                    exact LvB.more hn q6 hc6 hg6 hgr hk6 (by omega) hSw hown hgrow hv
                  clear hown hgrow hv q6 hc6 hk6
                  gi_wp2
                  refine ⟨⟨j0 + 1, congrArg _ (wrap_succ (by omega)), by omega, hLB⟩, ?_⟩
                  rw [wrap_succ (by omega)]
                  simp only [intOf]
                  omega
              · have hj1 : j0 = li.length := by omega
                have hLB : LvB n S g4 W3 (Tr.lower ((Tr.lev t k).take (i0 + 1))) (.slice (some ⟨g6, 0, none⟩) (Tr.lower ((Tr.lev t k).take i0) ++ NE (li.take j0)).length cap6) wr := by
                  have e1 : Tr.lower ((Tr.lev t k).take (i0 + 1)) = Tr.lower ((Tr.lev t k).take i0) ++ NE (li.take j0) := by rw [low_snoc hli, hj1, List.take_length]
                  rw [e1]
                  exact ⟨⟨g6, cap6, cur6, rfl, q6, hc6, hg6⟩, hgr⟩
                have hil : i0 + 1 ≤ maxLen := by have := q3.le; have := q3.max; omega
                gi_wp2
                refine ⟨⟨i0 + 1, congrArg _ (wrap_succ (by omega)), by omega, hLB⟩, ?_⟩
                rw [wrap_succ (by omega)]
                simp only [intOf]
                omega
          · have hi1 : i0 = (Tr.lev t k).length := by omega
            gi_wp2
            have hlo : Tr.lower ((Tr.lev t k).take i0) = Tr.lev t (k + 1) := by rw [hi1, List.take_length]; rfl
            rw [hlo] at q5 hc5 ⊢
            have hbe : Below S W3 wr := ⟨hgr.os, hgr.tape, hgr.output, hgr.size, fun b hb => hgr.block b (by omega) (fun e => by cases e; omega)⟩
            have hLI : LvI n S t J (m - 1) (.slice (some ⟨g5, 0, none⟩) (Tr.lev t (k + 1)).length cap5) (.slice (some ⟨g3, 0, none⟩) (Tr.lev t k).length cap3) wr :=
              ⟨k + 1, g5, cap5, cur5, g3, _, cap3, cur3, by omega, rfl, rfl, q5, q3w, by have := cell_lt' q3.at'; rcases hg5 with h | h <;> omega, hc5, hJ _ _ _ hJ3 hsz3 hbe, Nat.le_trans hsz3 hgr.size⟩
            refine ⟨⟨_, hLI⟩, ?_⟩
            rw [hM.out]
            exact Nat.lt_of_le_of_lt ((leastOf_spec ⟨_, hLI⟩).2 _ hLI) (by omega)
      · gi_wp2
        go_end0
        exact ⟨⟨_, rfl⟩, .inr ⟨k, hd, hJx3⟩⟩
    · have h0N : (Tr.lev t k).length = 0 := by rw [Tr.lev_none.2 (by omega)]; rfl
      have hkd : k = t.depth := by omega
      rw [h0N]
      gi_wp2
      refine ⟨fun _ h => (by cases h), ?_⟩
      gi_wp2
      go_end0
      exact ⟨⟨_, rfl⟩, .inl (hkd ▸ hj)⟩
theorem levels_itr {n Bn : Nat} {t : Tn} {cs : List Value} {w : World} (hn : n ≤ w.heap.size) (hc : w.heap[Bn]? = some (.cells cs.toArray 25 (0, 0))) (ht : At (fun b => b < n) w t cs) (h24 : t.size ≤ 4398046511103) :
    Itr Tryz.prog 22 #[.pointer (some ⟨Bn, 0, none⟩)] n t.depth (LevX n t) w := fun l J Jx W hb hJ _ hY h0 =>
  levels1_in n t l Bn J Jx W cs (Nat.le_trans hn hb.size) ((hb.block _ (cell_lt' hc)).trans hc) (At.keep (Same.below (hb.mono hn)) _ _ ht) hJ hY h0 h24
theorem levX_keep {n s k : Nat} {t : Tn} {A B : World} {v : Value} (h : LevX n t s k A v) (hk : Kp n s A B) : LevX n t s k B v := by
  obtain ⟨g, cap, cur, q, h1, h2, h3, h4, h5, h6⟩ := h
  exact ⟨g, cap, cur, q, h1, h2, (hk.same g (cell_lt' h3) (.inr h2)).trans h3, h4, h5, h6.keep (fun b hb hl => hk.same b hl (hb.imp id fun e => by omega))⟩
theorem levels_any (d : Nd) (s : Value) (w : World) : Calls Tryz.prog 15 #[nodV d s] w fun e w' => e = .returned (.func (.func 22) #[] #[.pointer (some ⟨w.heap.size, 0, none⟩)]) ∧ w' = w.alloc (.cells (celN d s).toArray 25) := by
  have hmf : ∀ (fn : Fn) (first cap : Array Value) (w : World), (Instr.makeFunc fn first cap).run Tryz.prog w = .ok (.func fn first cap) w := fun _ _ _ _ => rfl
  unfold nodV
  go_enter Tryz.func15, Tryz.ntmps15
  go_wp2
  go_ret
  exact ⟨rfl, rfl⟩
end Go.Proofs.YtfpmhahjemdodaaGreatDoor
