/-
  The program's table of shapes, whole. The program's holds of any node; which kinds a node's Kids have; the iterator over nodes as one. A range over a function whose round lays its item into a block of its own.
-/
import Derived.Test.YtfpmhahjemdodaaGreatDoorJ19
import Derived.Test.YtfpmhahjemdodaaGreatDoorJ20
import Derived.Test.YtfpmhahjemdodaaGreatDoorJ21
import Derived.Test.YtfpmhahjemdodaaGreatDoorJ22
import Derived.Test.YtfpmhahjemdodaaGreatDoorMqaf
import Derived.Test.YtfpmhahjemdodaaGreatDoorMqaa
namespace Go.Proofs.YtfpmhahjemdodaaGreatDoor
open Go.RowKit Go.Shelf
attribute [local go_sem] stFl hmf
theorem Tab.congr {nb b : Nat} {F G : Nat → Shp} {w : World} (h : Tab nb b F w) (e : ∀ k, k < 63 → F k = G k) : Tab nb b G w :=
  ⟨fun k hk => by obtain ⟨vs, h1, h2⟩ := h.ent k hk; exact ⟨vs, h1, by rw [← e k hk]; exact h2⟩, h.thr, h.lt, h.le⟩
theorem tab_new (w : World) (ty : TypeId) : Tab (w.heap.size + 1) w.heap.size (fun _ => {}) (w.alloc (.cells (Array.replicate 315 .nilFunc) ty (0, 0))) := by
  have hw : (w.alloc (.cells (Array.replicate 315 .nilFunc) ty (0, 0))).heap[w.heap.size]? = some (.cells (Array.replicate 315 .nilFunc) ty (0, 0)) := World.alloc_heap_new _ _
  obtain ⟨u, hu⟩ : ∃ u, w.alloc (.cells (Array.replicate 315 .nilFunc) ty (0, 0)) = u := ⟨_, rfl⟩
  have hz : u.heap.size = w.heap.size + 1 := by rw [← hu]; simp
  rw [hu] at hw ⊢
  have hc : ∀ j, j < 315 → u.cell? ⟨w.heap.size, j, none⟩ = some .nilFunc := fun j hj =>
    (cell_of_row u w.heap.size j _ _ _ hw).trans (by simp [hj])
  refine ⟨fun k hk => ⟨[.nilFunc, .nilFunc, .nilFunc, .nilFunc, .nilFunc], fun j v hv => ?_, _, _, _, _, _, rfl, rfl, rfl, rfl, rfl, rfl⟩, fun j hj => ⟨?_, ?_⟩, by omega, by omega⟩
  · have hj : j < 5 := (List.getElem?_eq_some_iff.1 hv).1
    rw [hc _ (by omega)]
    have : j = 0 ∨ j = 1 ∨ j = 2 ∨ j = 3 ∨ j = 4 := by omega
    rcases this with rfl | rfl | rfl | rfl | rfl <;> exact hv
  · rw [hc _ (by omega)]
    rfl
  · unfold World.frozen?
    rw [show (⟨w.heap.size, 0 + j, none⟩ : Addr).block = w.heap.size from rfl, hw]
    simp
set_option maxRecDepth 100000 in
set_option maxHeartbeats 4000000 in
theorem made_shapes : madeCells (Value.cells (.agg #[.nilFunc, .nilFunc, .nilFunc, .nilFunc, .nilFunc])) 315 = Array.replicate 315 .nilFunc := by
  kernel_rfl
theorem mk_shapes (w : World) : (Instr.makeSlice 56 (.int .i64 63) (.int .i64 63)).run Tryz.prog w = .ok (.slice (some ⟨w.heap.size, 0, none⟩) 63 63) (w.alloc (.cells (Array.replicate 315 .nilFunc) 63)) := by
  have h := run_makeSlice (P := Tryz.prog) w 56 63 Tryz.t63 (.agg #[.nilFunc, .nilFunc, .nilFunc, .nilFunc, .nilFunc]) Tryz.underlying56 (by kernel_rfl) (by kernel_rfl) .i64 .i64 63 63 (by omega) (by omega) (by decide) (by decide) (by omega)
  rw [← made_shapes]
  exact h
attribute [local go_sem] mk_shapes
set_option maxRecDepth 100000 in
set_option maxHeartbeats 4000000 in
theorem ashapes_any {nmd rsv : ByteArray → Bool} (hL : Lx nmd rsv) (W : World) :
    Calls Tryz.prog 23 #[] W fun e w' => ∃ b, e = .returned (.slice (some ⟨b, 0, none⟩) 63 63) ∧ W.heap.size ≤ b ∧ Tab (b + 1) b (shp nmd rsv) w' ∧ Below W.heap.size W w' := by
  have HL := Lib.hid hL
  clear hL
  have HT := Lib.hid (tab_new W 63)
  have hK : Below W.heap.size W (W.alloc (.cells (Array.replicate 315 .nilFunc) 63 (0, 0))) := b1 _
  have hz : (W.alloc (.cells (Array.replicate 315 .nilFunc) 63 (0, 0))).heap.size = W.heap.size + 1 := by simp
  have HB := Lib.hid hK
  clear hK
  go_enter Tryz.func23, Tryz.ntmps23
  go_wp2_with fail
  refine (ashapeOperands_any HL.out _ HT.out).mono ?_
  rintro e w1 ⟨⟨v1, rfl⟩, hT1, hK1⟩
  have HT1 := Lib.hid hT1
  have HK1 := Lib.hid hK1
  clear hT1 hK1
  go_wp2_with fail
  refine (ashapeOperators_any HL.out _ HT1.out).mono ?_
  rintro e w2 ⟨⟨v2, rfl⟩, hT2, hK2⟩
  have HT2 := Lib.hid hT2
  have HK2 := Lib.hid (HK1.out.trans hK2)
  clear hT2 hK2
  go_wp2_with fail
  refine (ashapeSimple_any HL.out _ HT2.out).mono ?_
  rintro e w3 ⟨⟨v3, rfl⟩, hT3, hK3⟩
  have HT3 := Lib.hid hT3
  have HK3 := Lib.hid (HK2.out.trans hK3)
  clear hT3 hK3
  go_wp2_with fail
  refine (ashapeNested_any HL.out _ HT3.out).mono ?_
  rintro e w4 ⟨⟨v4, rfl⟩, hT4, hK4⟩
  have HT4 := Lib.hid hT4
  have HK4 := Lib.hid (HK3.out.trans hK4)
  clear hT4 hK4
  go_wp2
  go_ret
  refine ⟨_, rfl, Nat.le_refl _, HT4.out.congr ?_, ?_⟩
  · intro k hk
    iterate 63
      rcases k with _ | k
      · rfl
    omega
  · have hx := HK4.out
    have h0 := HB.out
    exact ⟨hx.os.trans h0.os, hx.tape.trans h0.tape, hx.output.trans h0.output, Nat.le_trans h0.size hx.size, fun k hk => (hx.block k (by omega) (by omega)).trans (h0.block k hk)⟩
end Go.Proofs.YtfpmhahjemdodaaGreatDoor
namespace Go.Proofs.YtfpmhahjemdodaaGreatDoor
open Go.RowKit Go.Shelf
attribute [local go_sem] stFl hmf
theorem nodes_itr {n Bn : Nat} {t : Tn} {cs : List Value} {w : World} (hn : n ≤ w.heap.size) (hc : w.heap[Bn]? = some (.cells cs.toArray 25 (0, 0))) (ht : At (fun b => b < n) w t cs) (h24 : t.size ≤ 4398046511103) :
    Itr Tryz.prog 34 #[.pointer (some ⟨Bn, 0, none⟩)] n (Tr.all t t.depth).length (NodX n t) w := fun l J Jx W hb hJ hJx hY h0 =>
  nodes1_in n t l Bn J Jx W cs (Nat.le_trans hn hb.size) ((hb.block _ (cell_lt' hc)).trans hc) (At.keep (Same.below (hb.mono hn)) _ _ ht) hJ hJx hY h0 h24
theorem nodes_any (d : Nd) (s : Value) (w : World) : Calls Tryz.prog 24 #[nodV d s] w fun e w' => e = .returned (.func (.func 34) #[] #[.pointer (some ⟨w.heap.size, 0, none⟩)]) ∧ w' = w.alloc (.cells (celN d s).toArray 25) := by
  unfold nodV
  go_enter Tryz.func24, Tryz.ntmps24
  go_wp2
  go_ret
  exact ⟨rfl, rfl⟩
theorem holds_any {nb : Nat} (t : Tn) (A : Option Addr) (c : Nat) (vs : List Value) (s : Shp) (pb : Nat → Prop) (W : World) (hv : ShpV nb W vs s) (hA : AtS pb W t.kids (.slice A t.kids.length c)) (hF : Fit t) :
    Calls Tryz.prog 25 #[.agg vs.toArray, nodA t.datum A t.kids.length c] W fun e w' => e = .returned (.bool (hld s t)) ∧ Below W.heap.size W w' := by
  obtain ⟨v0, v1, v2, v3, v4, rfl, h0, h1, h2, h3, h4⟩ := hv
  have C : ∀ (v : Value) (p : Option TT), Prt nb W v p → ∀ z, Hid (∀ W', Below W.heap.size W W' → Calls Tryz.prog 35 #[v, nodA t.datum A t.kids.length c, .bool z] W' fun e w' => e = .returned (.bool (prt p t z)) ∧ Below W'.heap.size W' w') :=
    fun v p hp z => Lib.hid fun W' hb => apart_any t A c v p z pb W' (hp.abv (Abv.of hb)) (hA.keep (fun b _ hl => hb.block b hl)) hF
  have C0 := C v0 s.op h0 t.datum.op.toList.isEmpty
  have C1 := C v1 s.st h1 t.datum.st.toList.isEmpty
  have C2 := C v2 s.nm h2 ((t.datum.nm : Int) == 0)
  have C3 := C v3 s.fl h3 (!t.datum.fl)
  have C4 := C v4 s.kd h4 ((t.kids.length : Int) == 0)
  have e2 : ((t.datum.nm : Int) == 0) = (t.datum.nm == 0) := by
    rw [Bool.eq_iff_iff, beq_iff_eq, beq_iff_eq]
    omega
  have e4 : ((t.kids.length : Int) == 0) = (t.kids.length == 0) := by
    rw [Bool.eq_iff_iff, beq_iff_eq, beq_iff_eq]
    omega
  clear C
  unfold hld
  rw [← e2, ← e4]
  clear e2 e4
  generalize prt s.op t _ = B0 at C0 ⊢
  generalize prt s.st t _ = B1 at C1 ⊢
  generalize prt s.nm t _ = B2 at C2 ⊢
  generalize prt s.fl t _ = B3 at C3 ⊢
  generalize prt s.kd t _ = B4 at C4 ⊢
  cases B0
  · exact holds_0 _ A _ c v0 v1 v2 v3 v4 W C0
  cases B1
  · exact holds_1 _ A _ c v0 v1 v2 v3 v4 W C0 C1
  cases B2
  · exact holds_2 _ A _ c v0 v1 v2 v3 v4 W C0 C1 C2
  cases B3
  · exact holds_3 _ A _ c v0 v1 v2 v3 v4 W C0 C1 C2 C3
  · rw [Bool.true_and, Bool.true_and, Bool.true_and, Bool.true_and]
    exact holds_4 _ A _ c v0 v1 v2 v3 v4 W B4 C0 C1 C2 C3 C4
/-- A node's Kind lies in the table. -/
def Rng (p : TT) : Prop := ∀ y, p y = true → 0 ≤ kd y ∧ kd y < 63
/-- So do its Kids'. -/
def KR (p : TT) : Prop := ∀ x, p x = true → ∀ y ∈ x.kids, 0 ≤ kd y ∧ kd y < 63
inductive RngL : List TT → Prop
  | nil : RngL []
  | cons {p l} : Rng p → RngL l → RngL (p :: l)
theorem rng_expr : Rng tExpr := fun y h => by
  simp only [tExpr, Bool.and_eq_true, decide_eq_true_eq] at h
  omega
theorem rng_stat : Rng tStat := fun y h => by
  simp only [tStat, Bool.and_eq_true, decide_eq_true_eq] at h
  omega
theorem rng_left : Rng tLeft := fun y h => by
  simp only [tLeft, Bool.and_eq_true] at h
  exact rng_expr y h.1
theorem rng_closed : Rng tClosed := fun y h => by
  simp only [tClosed, Bool.and_eq_true] at h
  exact rng_stat y h.1
theorem rng_onevar : Rng tOneVar := fun y h => by
  simp only [tOneVar, Bool.and_eq_true, beq_iff_eq] at h
  omega
theorem rng_acc {n : Int} : Rng (tAcc n) := fun y h => by
  simp only [tAcc, Bool.and_eq_true, beq_iff_eq] at h
  omega
theorem rng_is {ks : List Int} (h : (ks.all fun k => decide (0 ≤ k) && decide (k < 63)) = true) : Rng (tIs ks) := fun y hy => by
  unfold tIs at hy
  rw [List.any_eq_true] at hy
  obtain ⟨k, hk, e⟩ := hy
  have h1 := List.all_eq_true.1 h k hk
  simp only [Bool.and_eq_true, decide_eq_true_eq] at h1
  rw [beq_iff_eq] at e
  omega
theorem rng_either {p q : TT} (hp : Rng p) (hq : Rng q) : Rng (tEither p q) := fun y h => by
  simp only [tEither, Bool.or_eq_true] at h
  exact h.elim (hp y) (hq y)
theorem kr_each {p : TT} (hp : Rng p) : KR (tEach p) := fun _ h y hy => hp y (List.all_eq_true.1 h y hy)
theorem zip_rng : ∀ {l : List TT} {ks : List Tn}, RngL l → ks.length = l.length → zipAll l ks = true → ∀ y ∈ ks, 0 ≤ kd y ∧ kd y < 63
  | _, [], _, _, _, y, hy => by simp at hy
  | [], _ :: _, _, hl, _, y, hy => by simp at hl
  | p :: l, x :: ks, hr, hl, h, y, hy => by
    cases hr with
    | cons hp hr =>
      rw [zipAll, Bool.and_eq_true] at h
      rcases List.mem_cons.1 hy with rfl | hy
      · exact hp _ h.1
      · exact zip_rng hr (by simpa using hl) h.2 y hy
theorem kr_row {l : List TT} (h : RngL l) : KR (tRow l) := fun x hx y hy => by
  simp only [tRow, Bool.and_eq_true, beq_iff_eq] at hx
  exact zip_rng h hx.1 hx.2 y hy
theorem kr_first {p q : TT} (hp : Rng p) (hq : Rng q) : KR (tFirst p q) := fun x hx y hy => by
  unfold tFirst at hx
  cases hk : x.kids with
  | nil => rw [hk] at hy; simp at hy
  | cons z l =>
    rw [hk] at hx hy
    simp only [Bool.and_eq_true] at hx
    rcases List.mem_cons.1 hy with rfl | hy
    · exact hp _ hx.1
    · exact hq _ (List.all_eq_true.1 hx.2 y hy)
theorem kr_last {p q : TT} (hp : Rng p) (hq : Rng q) : KR (tLast p q) := fun x hx y hy => by
  unfold tLast at hx
  cases hk : x.kids.getLast? with
  | none => rw [List.getLast?_eq_none_iff] at hk; rw [hk] at hy; simp at hy
  | some z =>
    rw [hk] at hx
    simp only [Bool.and_eq_true] at hx
    have hne : x.kids ≠ [] := by rintro h0; rw [h0] at hy; simp at hy
    have hz : x.kids.getLast hne = z := by
      rw [List.getLast?_eq_some_getLast hne] at hk
      exact Option.some.inj hk
    rw [← List.dropLast_concat_getLast hne, List.mem_append] at hy
    rcases hy with hy | hy
    · exact hp _ (List.all_eq_true.1 hx.1 y hy)
    · rw [List.mem_singleton, hz] at hy
      subst hy
      exact hq _ hx.2
theorem kr_either {p q : TT} (hp : KR p) (hq : KR q) : KR (tEither p q) := fun x h => by
  simp only [tEither, Bool.or_eq_true] at h
  exact h.elim (hp x) (hq x)
theorem kr_left {p q : TT} (hp : KR p) : KR (tBoth p q) := fun x h => by
  simp only [tBoth, Bool.and_eq_true] at h
  exact hp x h.1
theorem kr_right {p q : TT} (hp : KR q) : KR (tBoth p q) := fun x h => by
  simp only [tBoth, Bool.and_eq_true] at h
  exact hp x h.2
def KRo : Option TT → Prop
  | none => True
  | some p => KR p
theorem shp_kids (nmd rsv : ByteArray → Bool) (k : Nat) : KRo (shp nmd rsv k).kd := by
  have e1 : KR (tBoth (tRow [tExpr]) (tEither (tNot (tOp [[43, 43], [45, 45]])) (tRow [tLeft]))) := kr_left (by (repeat first | exact rng_expr | exact rng_stat | exact rng_left | exact rng_closed | exact rng_onevar | exact rng_acc | exact rng_is rfl | exact RngL.nil | refine RngL.cons ?_ ?_ | refine rng_either ?_ ?_ | refine kr_row ?_ | refine kr_each ?_ | refine kr_first ?_ ?_ | refine kr_last ?_ ?_ | refine kr_either ?_ ?_))
  have e2 : KR (tBoth (tFirst tExpr (tIs [58])) tOneDef) := kr_left (by (repeat first | exact rng_expr | exact rng_stat | exact rng_left | exact rng_closed | exact rng_onevar | exact rng_acc | exact rng_is rfl | exact RngL.nil | refine RngL.cons ?_ ?_ | refine rng_either ?_ ?_ | refine kr_row ?_ | refine kr_each ?_ | refine kr_first ?_ ?_ | refine kr_last ?_ ?_ | refine kr_either ?_ ?_))
  have e3 : KR (tEither (tBoth tFlag (tEach tStat)) (tBoth (tNot tFlag) (tFirst tExpr tStat))) := kr_either (kr_right (by (repeat first | exact rng_expr | exact rng_stat | exact rng_left | exact rng_closed | exact rng_onevar | exact rng_acc | exact rng_is rfl | exact RngL.nil | refine RngL.cons ?_ ?_ | refine rng_either ?_ ?_ | refine kr_row ?_ | refine kr_each ?_ | refine kr_first ?_ ?_ | refine kr_last ?_ ?_ | refine kr_either ?_ ?_))) (kr_right (by (repeat first | exact rng_expr | exact rng_stat | exact rng_left | exact rng_closed | exact rng_onevar | exact rng_acc | exact rng_is rfl | exact RngL.nil | refine RngL.cons ?_ ?_ | refine rng_either ?_ ?_ | refine kr_row ?_ | refine kr_each ?_ | refine kr_first ?_ ?_ | refine kr_last ?_ ?_ | refine kr_either ?_ ?_)))
  have e4 : KR (tBoth (tRow [tIs [43], tEither (tIs [61]) (tIs [46]), tEither (tIs [43]) (tIs [46])]) (tNot (tRow [tIs [43], tIs [46], tIs [46]]))) := kr_left (by (repeat first | exact rng_expr | exact rng_stat | exact rng_left | exact rng_closed | exact rng_onevar | exact rng_acc | exact rng_is rfl | exact RngL.nil | refine RngL.cons ?_ ?_ | refine rng_either ?_ ?_ | refine kr_row ?_ | refine kr_each ?_ | refine kr_first ?_ ?_ | refine kr_last ?_ ?_ | refine kr_either ?_ ?_))
  unfold shp
  split <;> first | exact trivial | exact e1 | exact e2 | exact e3 | exact e4 | (simp only [KRo]; (repeat first | exact rng_expr | exact rng_stat | exact rng_left | exact rng_closed | exact rng_onevar | exact rng_acc | exact rng_is rfl | exact RngL.nil | refine RngL.cons ?_ ?_ | refine rng_either ?_ ?_ | refine kr_row ?_ | refine kr_each ?_ | refine kr_first ?_ ?_ | refine kr_last ?_ ?_ | refine kr_either ?_ ?_); done)
theorem hld_kids {nmd rsv : ByteArray → Bool} {k : Nat} {x : Tn} (h : hld (shp nmd rsv k) x = true) : ∀ y ∈ x.kids, 0 ≤ kd y ∧ kd y < 63 := by
  unfold hld at h
  simp only [Bool.and_eq_true] at h
  have h5 := h.2.2.2.2
  have hk := shp_kids nmd rsv k
  intro y hy
  cases hq : (shp nmd rsv k).kd with
  | none =>
    rw [hq] at h5
    simp only [prt, beq_iff_eq] at h5
    rw [List.length_eq_zero_iff.1 h5] at hy
    simp at hy
  | some p =>
    rw [hq] at h5 hk
    exact hk x h5 y hy
theorem mem_under {α : Type} {x : Tr α} : ∀ {l : List (Tr α)}, x ∈ Tr.under l → ∃ y ∈ l, x ∈ y.kids
  | [], h => by simp [Tr.under] at h
  | z :: l, h => by
    have e : Tr.under (z :: l) = z.kids ++ Tr.under l := by simp [Tr.under]
    rw [e, List.mem_append] at h
    rcases h with h | h
    · exact ⟨z, by simp, h⟩
    · obtain ⟨y, h1, h2⟩ := mem_under h
      exact ⟨y, by simp [h1], h2⟩
/-- Each node but the first stands among the Kids of one that was told before. -/
theorem all_par {t : Tn} : ∀ {D k : Nat} {x : Tn}, (Tr.all t D)[k]? = some x → x = t ∨ ∃ j y, j < k ∧ (Tr.all t D)[j]? = some y ∧ x ∈ y.kids
  | 0, k, x, h => by simp [Tr.all] at h
  | D + 1, k, x, h => by
    rw [Tr.all] at h ⊢
    rcases Nat.lt_or_ge k (Tr.all t D).length with hk | hk
    · rw [List.getElem?_append_left hk] at h
      rcases all_par h with e | ⟨j, y, h1, h2, h3⟩
      · exact .inl e
      · exact .inr ⟨j, y, h1, by rw [List.getElem?_append_left (by omega)]; exact h2, h3⟩
    · rw [List.getElem?_append_right hk] at h
      have hm := List.mem_of_getElem? h
      cases D with
      | zero =>
        simp [Tr.lev] at hm
        exact .inl hm
      | succ E =>
        rw [Tr.lev, Tr.lower_flatten] at hm
        obtain ⟨y, h1, h2⟩ := mem_under hm
        obtain ⟨i, hi⟩ := List.mem_iff_getElem?.1 h1
        have hil := (List.getElem?_eq_some_iff.1 hi).1
        refine .inr ⟨(Tr.all t E).length + i, y, ?_, ?_, h2⟩
        · rw [Tr.all, List.length_append] at hk
          omega
        · rw [Tr.all, List.getElem?_append_left (by rw [List.length_append]; omega), List.getElem?_append_right (by omega)]
          simpa using hi
theorem all_fit {t : Tn} (h : Fit t) {D : Nat} : ∀ (k : Nat) {x : Tn}, (Tr.all t D)[k]? = some x → Fit x := by
  intro k
  induction k using Nat.strongRecOn with
  | ind k ih =>
    intro x hx
    rcases all_par hx with rfl | ⟨j, y, h1, h2, h3⟩
    · exact h
    · exact (ih j h1 h2).kid h3
/-- A tree that keeps the table. -/
def treeOk (nmd rsv : ByteArray → Bool) (t : Tn) : Bool :=
  kd t == 40 && (decide (t.size ≤ 1048576) && (decide (t.depth ≤ 65536) && Tr.every (fun x => hld (shp nmd rsv (kd x).toNat) x) t))
end Go.Proofs.YtfpmhahjemdodaaGreatDoor
namespace Go.Proofs.YtfpmhahjemdodaaGreatDoor
open Go.RowKit
theorem wp_range2 {P : Program} {g : Operand} {p : Tmp} {assign body : Code} {Q : Exit → Act → World → Prop} {a : Act} {w : World} {gf : Nat} {lb : Array Value}
    (hg : a.eval g = .func (.func gf) #[] lb) (eg : ∀ args w, (callFunc gf args).run P w = .ok (.enter gf args) w)
    {n N : Nat} {X : Nat → Nat → World → Value → Prop} {w0 : World} (hseq : Itr P gf lb n N X w0) (hb0 : Below w0.heap.size w0 w) (hn : n ≤ w.heap.size)
    (hX : ∀ k A B v, X (w.heap.size + 2) k A v → Kp n (w.heap.size + 2) A B → X (w.heap.size + 2) k B v)
    (I : Nat → World → Prop) (Ix : Code → Nat → World → Prop)
    (hI : ∀ k A B, I k A → w.heap.size ≤ A.heap.size → Below w.heap.size A B → I k B)
    (hIx : ∀ c k A B, Ix c k A → w.heap.size ≤ A.heap.size → Below w.heap.size A B → Ix c k B)
    (h0 : I 0 w) (a₁ : Value → World → Act) (g₁ : Value → World → World) (hg₁ : ∀ v W, Below W.heap.size W (g₁ v W))
    (hassign : ∀ (l k : Nat) (v : Value) (W : World) (K : Act → World → Prop), X (w.heap.size + 2) k W v → K (a₁ v W) (g₁ v W) →
      assign.wpIn (Fence.wide.inRound l) 0 P (Exit.then K (fun _ _ _ => False)) { tmps := (#[p].zip #[v]).foldl (fun t (p, v) => t.setIfInBounds p v) a.tmps, defers := [] } W)
    (hbody : ∀ (l k : Nat) (v : Value) (Wo W : World), k < N → I k W → w.heap.size + 2 ≤ Wo.heap.size → Kp n (w.heap.size + 2) (g₁ v Wo) W → X (w.heap.size + 2) k W v →
      body.wpIn (Fence.wide.inRound l) 0 P (rngPost n w.heap.size k I Ix W) (a₁ v Wo) W)
    (hdone : ∀ (D : Nat) (W : World), w.heap.size ≤ D → I N W → W.heap[D]? = some (.deferred (some [])) → Q .normal { a with defers := { target := .collected D, args := #[] } :: a.defers } W)
    (hstop : ∀ (D : Nat) (c : Code) (k : Nat) (W : World), w.heap.size ≤ D → k < N → Ix c k W → W.heap[D]? = some (.deferred (some [])) →
      c.wpIn Fence.wide 0 P Q { a with defers := { target := .collected D, args := #[] } :: a.defers } W) :
    (Code.rangeFunc g #[p] assign body).wpIn Fence.wide 0 P Q a w := by
  refine wpIn_rangeFunc fun fn _ => ?_
  let R : LoopState → Option Code → Obj := fun st pe => .loop { state := st, pending := pe, fn := fn, tmps := a.tmps, params := #[p], assign := assign, body := body, defers := w.heap.size }
  let s := w.heap.size
  let W1 := (w.alloc (.deferred (some []))).alloc (R .ready none)
  have z1 : W1.heap.size = s + 2 := by simp [W1, s]
  have hL1 : W1.heap[s + 1]? = some (R .ready none) := by
    have := World.alloc_heap_new (w.alloc (.deferred (some []))) (R .ready none)
    rwa [World.size_alloc] at this
  have hD1 : W1.heap[s]? = some (.deferred (some [])) := (Below.heap_alloc _ _ _ (by simp [s])).trans (World.alloc_heap_new w _)
  have b1 : Below s w W1 := ((Below.refl s w).alloc (Nat.le_refl _) _).alloc (by simp [s]) _
  refine ⟨s + 1, [{ target := .collected s, args := #[] }], W1, { target := .fn (.func gf) lb, args := #[.func (.yield (s + 1)) #[] #[]] }, W1, gf, #[.func (.yield (s + 1)) #[] #[]] ++ lb, W1,
    run_enterLoop_outer _ _ _ _ _, ?_, fun _ _ => trivial, ?_, (fun h => by cases h), ?_⟩
  · simp only [resolve, hg]
    simp [go_sem]
  · simp [invoke, go_sem, eg]
  · refine (hseq (s + 1) (fun k W => I k W ∧ W.heap[s + 1]? = some (R .ready none) ∧ W.heap[s]? = some (.deferred (some [])))
      (fun k W => ∃ c, Ix c k W ∧ W.heap[s + 1]? = some (R .done (some c)) ∧ W.heap[s]? = some (.deferred (some []))) W1 (hb0.trans (b1.mono hb0.size)) ?_ ?_ ?_ ⟨hI _ _ _ h0 (Nat.le_refl _) b1, hL1, hD1⟩).mono ?_
    · rintro k A B ⟨h1, h2, h3⟩ hs hb
      rw [z1] at hs hb
      exact ⟨hI _ _ _ h1 (by omega) (hb.mono (by omega)), (hb.block _ (by omega)).trans h2, (hb.block _ (by omega)).trans h3⟩
    · rintro k A B ⟨c, h1, h2, h3⟩ hs hb
      rw [z1] at hs hb
      exact ⟨c, hIx _ _ _ _ h1 (by omega) (hb.mono (by omega)), (hb.block _ (by omega)).trans h2, (hb.block _ (by omega)).trans h3⟩
    · rw [z1]
      rintro k W0 v hk ⟨hi0, hl0, hd0⟩ hs0 hx0
      have hbg := hg₁ v W0
      have hgs := hbg.size
      have hl : (g₁ v W0).heap[s + 1]? = some (R .ready none) := (hbg.block _ (by omega)).trans hl0
      refine ⟨fn, _, assign, body, run_yield hl0 rfl, roundIn_of_wpIn trivial (hassign _ k v W0 _ hx0 ⟨_, run_beginRound hl rfl, ?_⟩)⟩
      have hd : (g₁ v W0).heap[s]? = some (.deferred (some [])) := (hbg.block _ (by omega)).trans hd0
      have hi : I k (g₁ v W0) := hI _ _ _ hi0 (by omega) (hbg.mono (by omega))
      have hx : X (s + 2) k (g₁ v W0) v := hX _ _ _ _ hx0 (Kp.of_below hbg)
      have hs : s + 2 ≤ (g₁ v W0).heap.size := by omega
      have hkg : Kp n (s + 2) W0 (g₁ v W0) := Kp.of_below hbg
      obtain ⟨W, hW⟩ : ∃ W, g₁ v W0 = W := ⟨_, rfl⟩
      rw [hW] at hl hd hi hx hs hkg ⊢
      let Wb := W.putObj (s + 1) (R .busy none)
      have kb : Kp n (s + 2) W Wb := Kp.putObj _ _ (by omega) (by omega)
      have hlb : Wb.heap[s + 1]? = some (R .busy none) := World.putObj_heap_same (by omega)
      have hdb : Wb.heap[s]? = some (.deferred (some [])) := (World.putObj_heap_other (by omega)).trans hd
      have zb : Wb.heap.size = W.heap.size := by simp [Wb]
      refine wpIn_mono (hbody _ k v W0 Wb hk (hI _ _ _ hi (by omega) (below_put _ _ (by omega))) hs0 (by rw [hW]; exact kb) (hX _ _ _ _ hx kb)) ?_
      have fin : ∀ (st : LoopState) (j : Option Code) (W3 : World), Kp n s Wb W3 → st = (if j.isNone then .ready else .done) →
          (Instr.endRound (s + 1) j).run P W3 = .ok (.bool j.isNone) (W3.putObj (s + 1) (R st j)) ∧ (W3.putObj (s + 1) (R st j)).heap[s + 1]? = some (R st j) ∧ (W3.putObj (s + 1) (R st j)).heap[s]? = some (.deferred (some [])) ∧
          Kp n (s + 2) W (W3.putObj (s + 1) (R st j)) ∧ Below s W3 (W3.putObj (s + 1) (R st j)) ∧ s ≤ W3.heap.size := by
        intro st j W3 h3 hst
        have hl3 : W3.heap[s + 1]? = some (R .busy none) := (h3.same _ (by omega) (by omega)).trans hlb
        have hd3 : W3.heap[s]? = some (.deferred (some [])) := (h3.same _ (by omega) (by omega)).trans hdb
        have z3 := h3.size
        subst hst
        exact ⟨run_endRound j hl3, World.putObj_heap_same (by omega), (World.putObj_heap_other (by omega)).trans hd3, (kb.trans (h3.mono (Nat.le_refl _) (by omega))).trans (Kp.putObj _ _ (by omega) (by omega)), below_put _ _ (by omega), by omega⟩
      rintro e a3 W3 hp
      cases e with
      | normal =>
        obtain ⟨h3, hi3⟩ := hp
        obtain ⟨f1, f2, f3, f4, f5, f6⟩ := fin .ready none W3 h3 rfl
        exact ⟨_, _, f1, .inl ⟨rfl, ⟨hI _ _ _ hi3 f6 f5, f2, f3⟩, hkg.trans f4⟩⟩
      | ret =>
        obtain ⟨h3, hi3⟩ := hp
        obtain ⟨f1, f2, f3, f4, f5, f6⟩ := fin .done (some .ret) W3 h3 rfl
        exact ⟨_, _, f1, .inr ⟨rfl, ⟨_, hIx _ _ _ _ hi3 f6 f5, f2, f3⟩, hkg.trans f4⟩⟩
      | exit id =>
        obtain ⟨h3, hi3⟩ := hp
        obtain ⟨f1, f2, f3, f4, f5, f6⟩ := fin .done (some (.exit id)) W3 h3 rfl
        exact ⟨_, _, f1, .inr ⟨rfl, ⟨_, hIx _ _ _ _ hi3 f6 f5, f2, f3⟩, hkg.trans f4⟩⟩
      | goto t =>
        obtain ⟨h3, hi3⟩ := hp
        obtain ⟨f1, f2, f3, f4, f5, f6⟩ := fin .done (some (.goto t)) W3 h3 rfl
        exact ⟨_, _, f1, .inr ⟨rfl, ⟨_, hIx _ _ _ _ hi3 f6 f5, f2, f3⟩, hkg.trans f4⟩⟩
      | panic c => exact hp.elim
      | outgrown => exact hp.elim
    · rintro e W ⟨⟨v, rfl⟩, h⟩
      rcases h with ⟨hi, hl, hd⟩ | ⟨k, hk, c, hi, hl, hd⟩
      · refine ⟨none, _, run_endLoop hl (by simp), ?_⟩
        have hs := (Array.getElem?_eq_some_iff.1 hl).1
        exact hdone s _ (Nat.le_refl _) (hI _ _ _ hi (by omega) (below_put _ _ (by omega))) ((World.putObj_heap_other (by omega)).trans hd)
      · refine ⟨some c, _, run_endLoop hl (by simp), ?_⟩
        have hs := (Array.getElem?_eq_some_iff.1 hl).1
        exact hstop s c k _ (Nat.le_refl _) hk (hIx _ _ _ _ hi (by omega) (below_put _ _ (by omega))) ((World.putObj_heap_other (by omega)).trans hd)
end Go.Proofs.YtfpmhahjemdodaaGreatDoor
