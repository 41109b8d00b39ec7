/-
  The program's holds of any node; which kinds a node's Kids have; the iterator over nodes as one.
-/
import Derived.Test.YtjbofhaiephedaaGreatJ23
import Derived.Test.YtjbofhaiephedaaGreatJ8
namespace Go.Proofs.YtjbofhaiephedaaGreat
open Go.RowKit Go.Shelf
attribute [local go_sem] stFl hmf
theorem nodes_itr {n Bn : Nat} {t : Tn} {cs : List Value} {w : World} (hn : n ≤ w.heap.size) (hc : w.heap[Bn]? = some (.cells cs.toArray 25 (0, 0))) (ht : At (fun b => b < n) w t cs) (h24 : t.size ≤ 4398046511103) :
    Itr Tryz.prog 49 #[.pointer (some ⟨Bn, 0, none⟩)] n (Tr.all t t.depth).length (NodX n t) w := fun l J Jx W hb hJ hJx hY h0 =>
  nodes1_in n t l Bn J Jx W cs (Nat.le_trans hn hb.size) ((hb.block _ (cell_lt' hc)).trans hc) (At.keep (Same.below (hb.mono hn)) _ _ ht) hJ hJx hY h0 h24
theorem nodes_any (d : Nd) (s : Value) (w : World) : Calls Tryz.prog 29 #[nodV d s] w fun e w' => e = .returned (.func (.func 49) #[] #[.pointer (some ⟨w.heap.size, 0, none⟩)]) ∧ w' = w.alloc (.cells (celN d s).toArray 25) := by
  unfold nodV
  go_enter Tryz.func29, Tryz.ntmps29
  go_wp2
  go_ret
  exact ⟨rfl, rfl⟩
theorem holds_any {nb : Nat} (t : Tn) (A : Option Addr) (c : Nat) (vs : List Value) (s : Shp) (pb : Nat → Prop) (W : World) (hv : ShpV nb W vs s) (hA : AtS pb W t.kids (.slice A t.kids.length c)) (hF : Fit t) :
    Calls Tryz.prog 30 #[.agg vs.toArray, nodA t.datum A t.kids.length c] W fun e w' => e = .returned (.bool (hld s t)) ∧ Below W.heap.size W w' := by
  obtain ⟨v0, v1, v2, v3, v4, rfl, h0, h1, h2, h3, h4⟩ := hv
  have C : ∀ (v : Value) (p : Option TT), Prt nb W v p → ∀ z, Hid (∀ W', Below W.heap.size W W' → Calls Tryz.prog 50 #[v, nodA t.datum A t.kids.length c, .bool z] W' fun e w' => e = .returned (.bool (prt p t z)) ∧ Below W'.heap.size W' w') :=
    fun v p hp z => Lib.hid fun W' hb => apart_any t A c v p z pb W' (hp.abv (Abv.of hb)) (hA.keep (fun b _ hl => hb.block b hl)) hF
  have C0 := C v0 s.op h0 t.datum.op.toList.isEmpty
  have C1 := C v1 s.st h1 t.datum.st.toList.isEmpty
  have C2 := C v2 s.nm h2 ((t.datum.nm : Int) == 0)
  have C3 := C v3 s.fl h3 (!t.datum.fl)
  have C4 := C v4 s.kd h4 ((t.kids.length : Int) == 0)
  have e2 : ((t.datum.nm : Int) == 0) = (t.datum.nm == 0) := by
    rw [Bool.eq_iff_iff, beq_iff_eq, beq_iff_eq]
    omega
  have e4 : ((t.kids.length : Int) == 0) = (t.kids.length == 0) := by
    rw [Bool.eq_iff_iff, beq_iff_eq, beq_iff_eq]
    omega
  clear C
  unfold hld
  rw [← e2, ← e4]
  clear e2 e4
  generalize prt s.op t _ = B0 at C0 ⊢
  generalize prt s.st t _ = B1 at C1 ⊢
  generalize prt s.nm t _ = B2 at C2 ⊢
  generalize prt s.fl t _ = B3 at C3 ⊢
  generalize prt s.kd t _ = B4 at C4 ⊢
  cases B0
  · exact holds_0 _ A _ c v0 v1 v2 v3 v4 W C0
  cases B1
  · exact holds_1 _ A _ c v0 v1 v2 v3 v4 W C0 C1
  cases B2
  · exact holds_2 _ A _ c v0 v1 v2 v3 v4 W C0 C1 C2
  cases B3
  · exact holds_3 _ A _ c v0 v1 v2 v3 v4 W C0 C1 C2 C3
  · rw [Bool.true_and, Bool.true_and, Bool.true_and, Bool.true_and]
    exact holds_4 _ A _ c v0 v1 v2 v3 v4 W B4 C0 C1 C2 C3 C4
/-- A node's Kind lies in the table. -/
def Rng (p : TT) : Prop := ∀ y, p y = true → 0 ≤ kd y ∧ kd y < 63
/-- So do its Kids'. -/
def KR (p : TT) : Prop := ∀ x, p x = true → ∀ y ∈ x.kids, 0 ≤ kd y ∧ kd y < 63
inductive RngL : List TT → Prop
  | nil : RngL []
  | cons {p l} : Rng p → RngL l → RngL (p :: l)
theorem rng_expr : Rng tExpr := fun y h => by
  simp only [tExpr, Bool.and_eq_true, decide_eq_true_eq] at h
  omega
theorem rng_stat : Rng tStat := fun y h => by
  simp only [tStat, Bool.and_eq_true, decide_eq_true_eq] at h
  omega
theorem rng_left : Rng tLeft := fun y h => by
  simp only [tLeft, Bool.and_eq_true] at h
  exact rng_expr y h.1
theorem rng_closed : Rng tClosed := fun y h => by
  simp only [tClosed, Bool.and_eq_true] at h
  exact rng_stat y h.1
theorem rng_onevar : Rng tOneVar := fun y h => by
  simp only [tOneVar, Bool.and_eq_true, beq_iff_eq] at h
  omega
theorem rng_acc {n : Int} : Rng (tAcc n) := fun y h => by
  simp only [tAcc, Bool.and_eq_true, beq_iff_eq] at h
  omega
theorem rng_is {ks : List Int} (h : (ks.all fun k => decide (0 ≤ k) && decide (k < 63)) = true) : Rng (tIs ks) := fun y hy => by
  unfold tIs at hy
  rw [List.any_eq_true] at hy
  obtain ⟨k, hk, e⟩ := hy
  have h1 := List.all_eq_true.1 h k hk
  simp only [Bool.and_eq_true, decide_eq_true_eq] at h1
  rw [beq_iff_eq] at e
  omega
theorem rng_either {p q : TT} (hp : Rng p) (hq : Rng q) : Rng (tEither p q) := fun y h => by
  simp only [tEither, Bool.or_eq_true] at h
  exact h.elim (hp y) (hq y)
theorem kr_each {p : TT} (hp : Rng p) : KR (tEach p) := fun _ h y hy => hp y (List.all_eq_true.1 h y hy)
theorem zip_rng : ∀ {l : List TT} {ks : List Tn}, RngL l → ks.length = l.length → zipAll l ks = true → ∀ y ∈ ks, 0 ≤ kd y ∧ kd y < 63
  | _, [], _, _, _, y, hy => by simp at hy
  | [], _ :: _, _, hl, _, y, hy => by simp at hl
  | p :: l, x :: ks, hr, hl, h, y, hy => by
    cases hr with
    | cons hp hr =>
      rw [zipAll, Bool.and_eq_true] at h
      rcases List.mem_cons.1 hy with rfl | hy
      · exact hp _ h.1
      · exact zip_rng hr (by simpa using hl) h.2 y hy
theorem kr_row {l : List TT} (h : RngL l) : KR (tRow l) := fun x hx y hy => by
  simp only [tRow, Bool.and_eq_true, beq_iff_eq] at hx
  exact zip_rng h hx.1 hx.2 y hy
theorem kr_first {p q : TT} (hp : Rng p) (hq : Rng q) : KR (tFirst p q) := fun x hx y hy => by
  unfold tFirst at hx
  cases hk : x.kids with
  | nil => rw [hk] at hy; simp at hy
  | cons z l =>
    rw [hk] at hx hy
    simp only [Bool.and_eq_true] at hx
    rcases List.mem_cons.1 hy with rfl | hy
    · exact hp _ hx.1
    · exact hq _ (List.all_eq_true.1 hx.2 y hy)
theorem kr_last {p q : TT} (hp : Rng p) (hq : Rng q) : KR (tLast p q) := fun x hx y hy => by
  unfold tLast at hx
  cases hk : x.kids.getLast? with
  | none => rw [List.getLast?_eq_none_iff] at hk; rw [hk] at hy; simp at hy
  | some z =>
    rw [hk] at hx
    simp only [Bool.and_eq_true] at hx
    have hne : x.kids ≠ [] := by rintro h0; rw [h0] at hy; simp at hy
    have hz : x.kids.getLast hne = z := by
      rw [List.getLast?_eq_some_getLast hne] at hk
      exact Option.some.inj hk
    rw [← List.dropLast_concat_getLast hne, List.mem_append] at hy
    rcases hy with hy | hy
    · exact hp _ (List.all_eq_true.1 hx.1 y hy)
    · rw [List.mem_singleton, hz] at hy
      subst hy
      exact hq _ hx.2
theorem kr_either {p q : TT} (hp : KR p) (hq : KR q) : KR (tEither p q) := fun x h => by
  simp only [tEither, Bool.or_eq_true] at h
  exact h.elim (hp x) (hq x)
theorem kr_left {p q : TT} (hp : KR p) : KR (tBoth p q) := fun x h => by
  simp only [tBoth, Bool.and_eq_true] at h
  exact hp x h.1
theorem kr_right {p q : TT} (hp : KR q) : KR (tBoth p q) := fun x h => by
  simp only [tBoth, Bool.and_eq_true] at h
  exact hp x h.2
def KRo : Option TT → Prop
  | none => True
  | some p => KR p
theorem shp_kids (nmd rsv : ByteArray → Bool) (k : Nat) : KRo (shp nmd rsv k).kd := by
  have e1 : KR (tBoth (tRow [tExpr]) (tEither (tNot (tOp [[43, 43], [45, 45]])) (tRow [tLeft]))) := kr_left (by (repeat first | exact rng_expr | exact rng_stat | exact rng_left | exact rng_closed | exact rng_onevar | exact rng_acc | exact rng_is rfl | exact RngL.nil | refine RngL.cons ?_ ?_ | refine rng_either ?_ ?_ | refine kr_row ?_ | refine kr_each ?_ | refine kr_first ?_ ?_ | refine kr_last ?_ ?_ | refine kr_either ?_ ?_))
  have e2 : KR (tBoth (tFirst tExpr (tIs [58])) tOneDef) := kr_left (by (repeat first | exact rng_expr | exact rng_stat | exact rng_left | exact rng_closed | exact rng_onevar | exact rng_acc | exact rng_is rfl | exact RngL.nil | refine RngL.cons ?_ ?_ | refine rng_either ?_ ?_ | refine kr_row ?_ | refine kr_each ?_ | refine kr_first ?_ ?_ | refine kr_last ?_ ?_ | refine kr_either ?_ ?_))
  have e3 : KR (tEither (tBoth tFlag (tEach tStat)) (tBoth (tNot tFlag) (tFirst tExpr tStat))) := kr_either (kr_right (by (repeat first | exact rng_expr | exact rng_stat | exact rng_left | exact rng_closed | exact rng_onevar | exact rng_acc | exact rng_is rfl | exact RngL.nil | refine RngL.cons ?_ ?_ | refine rng_either ?_ ?_ | refine kr_row ?_ | refine kr_each ?_ | refine kr_first ?_ ?_ | refine kr_last ?_ ?_ | refine kr_either ?_ ?_))) (kr_right (by (repeat first | exact rng_expr | exact rng_stat | exact rng_left | exact rng_closed | exact rng_onevar | exact rng_acc | exact rng_is rfl | exact RngL.nil | refine RngL.cons ?_ ?_ | refine rng_either ?_ ?_ | refine kr_row ?_ | refine kr_each ?_ | refine kr_first ?_ ?_ | refine kr_last ?_ ?_ | refine kr_either ?_ ?_)))
  have e4 : KR (tBoth (tRow [tIs [43], tEither (tIs [61]) (tIs [46]), tEither (tIs [43]) (tIs [46])]) (tNot (tRow [tIs [43], tIs [46], tIs [46]]))) := kr_left (by (repeat first | exact rng_expr | exact rng_stat | exact rng_left | exact rng_closed | exact rng_onevar | exact rng_acc | exact rng_is rfl | exact RngL.nil | refine RngL.cons ?_ ?_ | refine rng_either ?_ ?_ | refine kr_row ?_ | refine kr_each ?_ | refine kr_first ?_ ?_ | refine kr_last ?_ ?_ | refine kr_either ?_ ?_))
  unfold shp
  split <;> first | exact trivial | exact e1 | exact e2 | exact e3 | exact e4 | (simp only [KRo]; (repeat first | exact rng_expr | exact rng_stat | exact rng_left | exact rng_closed | exact rng_onevar | exact rng_acc | exact rng_is rfl | exact RngL.nil | refine RngL.cons ?_ ?_ | refine rng_either ?_ ?_ | refine kr_row ?_ | refine kr_each ?_ | refine kr_first ?_ ?_ | refine kr_last ?_ ?_ | refine kr_either ?_ ?_); done)
theorem hld_kids {nmd rsv : ByteArray → Bool} {k : Nat} {x : Tn} (h : hld (shp nmd rsv k) x = true) : ∀ y ∈ x.kids, 0 ≤ kd y ∧ kd y < 63 := by
  unfold hld at h
  simp only [Bool.and_eq_true] at h
  have h5 := h.2.2.2.2
  have hk := shp_kids nmd rsv k
  intro y hy
  cases hq : (shp nmd rsv k).kd with
  | none =>
    rw [hq] at h5
    simp only [prt, beq_iff_eq] at h5
    rw [List.length_eq_zero_iff.1 h5] at hy
    simp at hy
  | some p =>
    rw [hq] at h5 hk
    exact hk x h5 y hy
theorem mem_under {α : Type} {x : Tr α} : ∀ {l : List (Tr α)}, x ∈ Tr.under l → ∃ y ∈ l, x ∈ y.kids
  | [], h => by simp [Tr.under] at h
  | z :: l, h => by
    have e : Tr.under (z :: l) = z.kids ++ Tr.under l := by simp [Tr.under]
    rw [e, List.mem_append] at h
    rcases h with h | h
    · exact ⟨z, by simp, h⟩
    · obtain ⟨y, h1, h2⟩ := mem_under h
      exact ⟨y, by simp [h1], h2⟩
/-- Each node but the first stands among the Kids of one that was told before. -/
theorem all_par {t : Tn} : ∀ {D k : Nat} {x : Tn}, (Tr.all t D)[k]? = some x → x = t ∨ ∃ j y, j < k ∧ (Tr.all t D)[j]? = some y ∧ x ∈ y.kids
  | 0, k, x, h => by simp [Tr.all] at h
  | D + 1, k, x, h => by
    rw [Tr.all] at h ⊢
    rcases Nat.lt_or_ge k (Tr.all t D).length with hk | hk
    · rw [List.getElem?_append_left hk] at h
      rcases all_par h with e | ⟨j, y, h1, h2, h3⟩
      · exact .inl e
      · exact .inr ⟨j, y, h1, by rw [List.getElem?_append_left (by omega)]; exact h2, h3⟩
    · rw [List.getElem?_append_right hk] at h
      have hm := List.mem_of_getElem? h
      cases D with
      | zero =>
        simp [Tr.lev] at hm
        exact .inl hm
      | succ E =>
        rw [Tr.lev, Tr.lower_flatten] at hm
        obtain ⟨y, h1, h2⟩ := mem_under hm
        obtain ⟨i, hi⟩ := List.mem_iff_getElem?.1 h1
        have hil := (List.getElem?_eq_some_iff.1 hi).1
        refine .inr ⟨(Tr.all t E).length + i, y, ?_, ?_, h2⟩
        · rw [Tr.all, List.length_append] at hk
          omega
        · rw [Tr.all, List.getElem?_append_left (by rw [List.length_append]; omega), List.getElem?_append_right (by omega)]
          simpa using hi
theorem all_fit {t : Tn} (h : Fit t) {D : Nat} : ∀ (k : Nat) {x : Tn}, (Tr.all t D)[k]? = some x → Fit x := by
  intro k
  induction k using Nat.strongRecOn with
  | ind k ih =>
    intro x hx
    rcases all_par hx with rfl | ⟨j, y, h1, h2, h3⟩
    · exact h
    · exact (ih j h1 h2).kid h3
/-- A tree that keeps the table. -/
def treeOk (nmd rsv : ByteArray → Bool) (t : Tn) : Bool :=
  kd t == 40 && (decide (t.size ≤ 1048576) && (decide (t.depth ≤ 65536) && Tr.every (fun x => hld (shp nmd rsv (kd x).toNat) x) t))
end Go.Proofs.YtjbofhaiephedaaGreat
