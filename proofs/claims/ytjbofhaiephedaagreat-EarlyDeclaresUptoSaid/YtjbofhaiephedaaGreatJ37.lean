/-
  In a tree that keeps the table all that is declared is among its names. No program in it.
-/
import Derived.Test.YtjbofhaiephedaaGreatJ24
import Derived.Test.YtjbofhaiephedaaGreatJ36
namespace Go.Proofs.YtjbofhaiephedaaGreat
/-- A node's Kind is no program, no body, no declaration. -/
def Nob (p : TT) : Prop := ∀ y, p y = true → kd y ≠ 40 ∧ kd y ≠ 41 ∧ kd y ≠ 42
def KB (p : TT) : Prop := ∀ x, p x = true → ∀ y ∈ x.kids, kd y ≠ 40 ∧ kd y ≠ 41 ∧ kd y ≠ 42
inductive NobL : List TT → Prop
  | nil : NobL []
  | cons {p l} : Nob p → NobL l → NobL (p :: l)
theorem nob_expr : Nob tExpr := fun y h => by
  simp only [tExpr, Bool.and_eq_true, decide_eq_true_eq] at h
  omega
theorem nob_stat : Nob tStat := fun y h => by
  simp only [tStat, Bool.and_eq_true, decide_eq_true_eq] at h
  omega
theorem nob_left : Nob tLeft := fun y h => by
  simp only [tLeft, Bool.and_eq_true] at h
  exact nob_expr y h.1
theorem nob_closed : Nob tClosed := fun y h => by
  simp only [tClosed, Bool.and_eq_true] at h
  exact nob_stat y h.1
theorem nob_onevar : Nob tOneVar := fun y h => by
  simp only [tOneVar, Bool.and_eq_true, beq_iff_eq] at h
  omega
theorem nob_acc {n : Int} : Nob (tAcc n) := fun y h => by
  simp only [tAcc, Bool.and_eq_true, beq_iff_eq] at h
  omega
theorem nob_is {ks : List Int} (h : (ks.all fun k => decide (k ≠ 40) && (decide (k ≠ 41) && decide (k ≠ 42))) = true) : Nob (tIs ks) := fun y hy => by
  unfold tIs at hy
  rw [List.any_eq_true] at hy
  obtain ⟨k, hk, e⟩ := hy
  have h1 := List.all_eq_true.1 h k hk
  simp only [Bool.and_eq_true, decide_eq_true_eq] at h1
  rw [beq_iff_eq] at e
  omega
theorem nob_either {p q : TT} (hp : Nob p) (hq : Nob q) : Nob (tEither p q) := fun y h => by
  simp only [tEither, Bool.or_eq_true] at h
  exact h.elim (hp y) (hq y)
theorem kb_each {p : TT} (hp : Nob p) : KB (tEach p) := fun _x h y hy => hp y (List.all_eq_true.1 h y hy)
theorem zip_nob : ∀ {l : List TT} {ks : List Tn}, NobL l → ks.length = l.length → zipAll l ks = true → ∀ y ∈ ks, kd y ≠ 40 ∧ kd y ≠ 41 ∧ kd y ≠ 42
  | _, [], _, _, _, y, hy => by simp at hy
  | [], _ :: _, _, hl, _, y, hy => by simp at hl
  | p :: l, x :: ks, hr, hl, h, y, hy => by
    cases hr with
    | cons hp hr =>
      rw [zipAll, Bool.and_eq_true] at h
      rcases List.mem_cons.1 hy with rfl | hy
      · exact hp _ h.1
      · exact zip_nob hr (by simpa using hl) h.2 y hy
theorem kb_row {l : List TT} (h : NobL l) : KB (tRow l) := fun x hx y hy => by
  simp only [tRow, Bool.and_eq_true, beq_iff_eq] at hx
  exact zip_nob h hx.1 hx.2 y hy
theorem kb_first {p q : TT} (hp : Nob p) (hq : Nob q) : KB (tFirst p q) := fun x hx y hy => by
  unfold tFirst at hx
  cases hk : x.kids with
  | nil => rw [hk] at hy; simp at hy
  | cons z l =>
    rw [hk] at hx hy
    simp only [Bool.and_eq_true] at hx
    rcases List.mem_cons.1 hy with rfl | hy
    · exact hp _ hx.1
    · exact hq _ (List.all_eq_true.1 hx.2 y hy)
theorem kb_last {p q : TT} (hp : Nob p) (hq : Nob q) : KB (tLast p q) := fun x hx y hy => by
  unfold tLast at hx
  cases hk : x.kids.getLast? with
  | none => rw [List.getLast?_eq_none_iff] at hk; rw [hk] at hy; simp at hy
  | some z =>
    rw [hk] at hx
    simp only [Bool.and_eq_true] at hx
    have hne : x.kids ≠ [] := by rintro h0; rw [h0] at hy; simp at hy
    have hz : x.kids.getLast hne = z := by
      rw [List.getLast?_eq_some_getLast hne] at hk
      exact Option.some.inj hk
    rw [← List.dropLast_concat_getLast hne, List.mem_append] at hy
    rcases hy with hy | hy
    · exact hp _ (List.all_eq_true.1 hx.1 y hy)
    · rw [List.mem_singleton, hz] at hy
      subst hy
      exact hq _ hx.2
theorem kb_either {p q : TT} (hp : KB p) (hq : KB q) : KB (tEither p q) := fun x h => by
  simp only [tEither, Bool.or_eq_true] at h
  exact h.elim (hp x) (hq x)
theorem kb_left {p q : TT} (hp : KB p) : KB (tBoth p q) := fun x h => by
  simp only [tBoth, Bool.and_eq_true] at h
  exact hp x h.1
theorem kb_right {p q : TT} (hp : KB q) : KB (tBoth p q) := fun x h => by
  simp only [tBoth, Bool.and_eq_true] at h
  exact hp x h.2
def KBo : Option TT → Prop
  | none => True
  | some p => KB p
theorem shp_nob (nmd rsv : ByteArray → Bool) (k : Nat) (h13 : k ≠ 13) (h40 : k ≠ 40) (h41 : k ≠ 41) (h42 : k ≠ 42) : KBo (shp nmd rsv k).kd := by
  have e1 : KB (tBoth (tRow [tExpr]) (tEither (tNot (tOp [[43, 43], [45, 45]])) (tRow [tLeft]))) := kb_left (by (repeat first | exact nob_expr | exact nob_stat | exact nob_left | exact nob_closed | exact nob_onevar | exact nob_acc | exact nob_is rfl | exact NobL.nil | refine NobL.cons ?_ ?_ | refine nob_either ?_ ?_ | refine kb_row ?_ | refine kb_each ?_ | refine kb_first ?_ ?_ | refine kb_last ?_ ?_ | refine kb_either ?_ ?_))
  have e2 : KB (tBoth (tFirst tExpr (tIs [58])) tOneDef) := kb_left (by (repeat first | exact nob_expr | exact nob_stat | exact nob_left | exact nob_closed | exact nob_onevar | exact nob_acc | exact nob_is rfl | exact NobL.nil | refine NobL.cons ?_ ?_ | refine nob_either ?_ ?_ | refine kb_row ?_ | refine kb_each ?_ | refine kb_first ?_ ?_ | refine kb_last ?_ ?_ | refine kb_either ?_ ?_))
  have e3 : KB (tEither (tBoth tFlag (tEach tStat)) (tBoth (tNot tFlag) (tFirst tExpr tStat))) := kb_either (kb_right (by (repeat first | exact nob_expr | exact nob_stat | exact nob_left | exact nob_closed | exact nob_onevar | exact nob_acc | exact nob_is rfl | exact NobL.nil | refine NobL.cons ?_ ?_ | refine nob_either ?_ ?_ | refine kb_row ?_ | refine kb_each ?_ | refine kb_first ?_ ?_ | refine kb_last ?_ ?_ | refine kb_either ?_ ?_))) (kb_right (by (repeat first | exact nob_expr | exact nob_stat | exact nob_left | exact nob_closed | exact nob_onevar | exact nob_acc | exact nob_is rfl | exact NobL.nil | refine NobL.cons ?_ ?_ | refine nob_either ?_ ?_ | refine kb_row ?_ | refine kb_each ?_ | refine kb_first ?_ ?_ | refine kb_last ?_ ?_ | refine kb_either ?_ ?_)))
  have e4 : KB (tBoth (tRow [tIs [43], tEither (tIs [61]) (tIs [46]), tEither (tIs [43]) (tIs [46])]) (tNot (tRow [tIs [43], tIs [46], tIs [46]]))) := kb_left (by (repeat first | exact nob_expr | exact nob_stat | exact nob_left | exact nob_closed | exact nob_onevar | exact nob_acc | exact nob_is rfl | exact NobL.nil | refine NobL.cons ?_ ?_ | refine nob_either ?_ ?_ | refine kb_row ?_ | refine kb_each ?_ | refine kb_first ?_ ?_ | refine kb_last ?_ ?_ | refine kb_either ?_ ?_))
  unfold shp
  split <;> first | exact trivial | exact absurd rfl h13 | exact absurd rfl h40 | exact absurd rfl h41 | exact absurd rfl h42 | exact e1 | exact e2 | exact e3 | exact e4 | (simp only [KBo]; (repeat first | exact nob_expr | exact nob_stat | exact nob_left | exact nob_closed | exact nob_onevar | exact nob_acc | exact nob_is rfl | exact NobL.nil | refine NobL.cons ?_ ?_ | refine nob_either ?_ ?_ | refine kb_row ?_ | refine kb_each ?_ | refine kb_first ?_ ?_ | refine kb_last ?_ ?_ | refine kb_either ?_ ?_); done)
theorem hld_nob {nmd rsv : ByteArray → Bool} {k : Nat} {x : Tn} (h13 : k ≠ 13) (h40 : k ≠ 40) (h41 : k ≠ 41) (h42 : k ≠ 42) (h : hld (shp nmd rsv k) x = true) : ∀ y ∈ x.kids, kd y ≠ 40 ∧ kd y ≠ 41 ∧ kd y ≠ 42 := by
  unfold hld at h
  simp only [Bool.and_eq_true] at h
  have h5 := h.2.2.2.2
  have hk := shp_nob nmd rsv k h13 h40 h41 h42
  intro y hy
  cases hq : (shp nmd rsv k).kd with
  | none =>
    rw [hq] at h5
    simp only [prt, beq_iff_eq] at h5
    rw [List.length_eq_zero_iff.1 h5] at hy
    simp at hy
  | some p =>
    rw [hq] at h5 hk
    exact hk x h5 y hy

section
variable {nmd rsv : ByteArray → Bool} {LS : List ByteArray}
mutual
theorem decG_of : ∀ (x : Tn) (ls : List ByteArray), Tr.every (fun x => hld (shp nmd rsv (kd x).toNat) x) x = true → ((kd x ≠ 40 ∧ kd x ≠ 41 ∧ kd x ≠ 42) ∨ (kd x = 42 ∧ memL LS x.datum.st = true)) → (0 ≤ kd x) →
    (∀ s, memL (varG ls x) s = true → memL LS s = true) → decG LS x = true
  | .mk d l, ls, he, hk, h0, hm => by
    rw [decG, hasL_mem]
    rw [Tr.every, Bool.and_eq_true] at he
    rw [varG] at hm
    replace hk : (d.k ≠ 40 ∧ d.k ≠ 41 ∧ d.k ≠ 42) ∨ (d.k = 42 ∧ memL LS d.st = true) := hk
    replace h0 : 0 ≤ d.k := h0
    rcases hk with ⟨n40, n41, n42⟩ | ⟨e42, hs⟩
    · have b42 : (d.k == 42) = false := beq_false_of_ne n42
      rw [b42, Bool.or_false, Bool.or_false]
      rw [b42, Bool.or_false] at hm
      by_cases h13 : d.k = 13
      · rw [h13]
        rfl
      · have b13 : (d.k == 13) = false := beq_false_of_ne h13
        rw [b13] at hm ⊢
        have hkn := hld_nob (nmd := nmd) (rsv := rsv) (x := .mk d l) (k := d.k.toNat) (by omega) (by omega) (by omega) (by omega) he.1
        have hkr := hld_kids (nmd := nmd) (rsv := rsv) (x := .mk d l) (k := d.k.toNat) he.1
        cases h45 : (d.k == 45)
        · rw [h45] at hm
          exact decL_of l ls he.2 (fun y hy => ⟨.inl (hkn y hy), (hkr y hy).1⟩) hm
        · rw [h45] at hm
          have hst : memL LS d.st = true := hm _ (mem_varL (mem_own ls d.st) l)
          rw [hst]
          exact decL_of l (addL ls d.st) he.2 (fun y hy => ⟨.inl (hkn y hy), (hkr y hy).1⟩) hm
    · rw [hs, e42]
      rfl
theorem decL_of : ∀ (l : List Tn) (ls : List ByteArray), Tr.everyL (fun x => hld (shp nmd rsv (kd x).toNat) x) l = true → (∀ y ∈ l, ((kd y ≠ 40 ∧ kd y ≠ 41 ∧ kd y ≠ 42) ∨ (kd y = 42 ∧ memL LS y.datum.st = true)) ∧ 0 ≤ kd y) →
    (∀ s, memL (varL ls l) s = true → memL LS s = true) → decL LS l = true
  | [], _, _, _, _ => by rw [decL]
  | x :: r, ls, he, hk, hm => by
    rw [decL]
    rw [Tr.everyL, Bool.and_eq_true] at he
    rw [varL] at hm
    rw [decG_of x ls he.1 (hk x (by simp)).1 (hk x (by simp)).2 (fun s hs => hm s (mem_varL hs r)), decL_of r (varG ls x) he.2 (fun y hy => hk y (by simp [hy])) hm]
    rfl
end
/-- All that a program declares is among its names. -/
theorem dec_prog {t : Tn} (h40 : kd t = 40) (he : Tr.every (fun x => hld (shp nmd rsv (kd x).toNat) x) t = true) : decG (varL (t.kids.foldl fnL []) t.kids) t = true := by
  have h1 : hld (shp nmd rsv 40) t = true := by
    rw [Tr.every_eq, Bool.and_eq_true] at he
    have := he.1
    rw [h40] at this
    exact this
  have h2 : ∀ y ∈ t.kids, (tStat y || tIs [42] y) = true := by
    unfold hld at h1
    simp only [Bool.and_eq_true] at h1
    exact fun y hy => List.all_eq_true.1 h1.2.2.2.2 y hy
  have hkr := hld_kids h1
  rw [decG_eq]
  have e40 : t.datum.k = 40 := h40
  rw [e40]
  rw [Tr.every_eq, Bool.and_eq_true] at he
  refine (if_neg (by simp)).trans ((if_neg (by simp)).trans (decL_of t.kids _ he.2 (fun y hy => ⟨?_, (hkr y hy).1⟩) (fun s hs => hs)))
  have h3 := h2 y hy
  rw [Bool.or_eq_true] at h3
  rcases h3 with h3 | h3
  · left
    simp only [tStat, Bool.and_eq_true, decide_eq_true_eq] at h3
    omega
  · right
    have h4 : kd y = 42 := by simpa [tIs] using h3
    exact ⟨h4, mem_varL (mem_fn t.kids hy (by rw [show y.datum.k = 42 from h4]; rfl)) t.kids⟩
end
end Go.Proofs.YtjbofhaiephedaaGreat
