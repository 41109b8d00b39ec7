/-
  Trees as they lie in memory: a node's cells, a row of nodes. No program in it.
-/
import Derived.Test.YtjbofhaiephedaaGreatAta
import Derived.ProofKit
import Derived.OpenShut
import Derived.Below
import Derived.Deep.MidRow
import Derived.Laws.Cells
namespace Go.Proofs.YtjbofhaiephedaaGreat
open Go.RowKit
/-- What stands in a node, but for its Kids. -/
structure Nd where
  k : Int
  op : ByteArray
  st : ByteArray
  nm : Nat
  fl : Bool
  ps : Int
abbrev Tn := Tr Nd
def celN (d : Nd) (s : Value) : List Value := [.int .i64 d.k, .string d.op, .string d.st, .float .f64 d.nm, .bool d.fl, s, .int .i64 d.ps]
def nodV (d : Nd) (s : Value) : Value := .agg #[.int .i64 d.k, .string d.op, .string d.st, .float .f64 d.nm, .bool d.fl, s, .int .i64 d.ps]
mutual
/-- A node's cells; all that is below it lies in blocks of p. -/
def At (p : Nat → Prop) (W : World) : Tn → List Value → Prop
  | .mk d l, cs => ∃ A c, cs = celN d (.slice A l.length c) ∧ (l.length ≤ maxLen ∧ l.length ≤ c) ∧ (l ≠ [] → ∃ b o, A = some ⟨b, o, none⟩ ∧ p b ∧ AtL p W b o l)
/-- Nodes, one behind the other. -/
def AtL (p : Nat → Prop) (W : World) (b : Nat) : Nat → List Tn → Prop
  | _, [] => True
  | o, t :: l => (∃ cs, W.rangeAt b o cs ∧ At p W t cs) ∧ AtL p W b (o + 7) l
end
/-- A slice of nodes. -/
def AtS (p : Nat → Prop) (W : World) (l : List Tn) (s : Value) : Prop :=
  ∃ A c, s = .slice A l.length c ∧ (l.length ≤ maxLen ∧ l.length ≤ c) ∧ (l ≠ [] → ∃ b o, A = some ⟨b, o, none⟩ ∧ p b ∧ AtL p W b o l)
theorem at_node {p : Nat → Prop} {W : World} {d : Nd} {l : List Tn} {cs : List Value} : At p W (.mk d l) cs ↔ ∃ s, cs = celN d s ∧ AtS p W l s := by
  unfold AtS
  rw [At]
  constructor
  · rintro ⟨A, c, rfl, h1, h2⟩
    exact ⟨_, rfl, A, c, rfl, h1, h2⟩
  · rintro ⟨_, rfl, A, c, rfl, h1, h2⟩
    exact ⟨A, c, rfl, h1, h2⟩
theorem at_seven {p : Nat → Prop} {W : World} : ∀ {t : Tn} {cs : List Value}, At p W t cs → ∃ v r, cs = v :: r
  | .mk d l, cs, h => by
    obtain ⟨s, rfl, _⟩ := at_node.1 h
    exact ⟨_, _, rfl⟩
theorem cell_lt {W : World} {b o : Nat} {v : Value} (h : W.cell? ⟨b, o, none⟩ = some v) : b < W.heap.size := by
  rcases Nat.lt_or_ge b W.heap.size with h' | h'
  · exact h'
  · simp [World.cell?, Array.getElem?_eq_none h'] at h
/-- The blocks of p lie as they lay. -/
def Same (p : Nat → Prop) (W W' : World) : Prop := ∀ b, p b → b < W.heap.size → W'.heap[b]? = W.heap[b]?
mutual
theorem At.keep {p : Nat → Prop} {W W' : World} (hk : Same p W W') : ∀ (t : Tn) (cs : List Value), At p W t cs → At p W' t cs
  | .mk d l, cs, h => by
    rw [At] at h ⊢
    obtain ⟨A, c, h1, h2, h3⟩ := h
    refine ⟨A, c, h1, h2, fun hl => ?_⟩
    obtain ⟨b, o, e1, e2, e3⟩ := h3 hl
    exact ⟨b, o, e1, e2, AtL.keep hk b e2 o l e3⟩
theorem AtL.keep {p : Nat → Prop} {W W' : World} (hk : Same p W W') (b : Nat) (hp : p b) : ∀ (o : Nat) (l : List Tn), AtL p W b o l → AtL p W' b o l
  | o, [], _ => by rw [AtL]; trivial
  | o, t :: l, h => by
    rw [AtL] at h ⊢
    obtain ⟨⟨cs, h1, h2⟩, h3⟩ := h
    refine ⟨⟨cs, fun j v hv => ?_, At.keep hk t cs h2⟩, AtL.keep hk b hp (o + 7) l h3⟩
    have h4 := h1 j v hv
    exact (World.cell?_of_block (hk b hp (cell_lt h4))).trans h4
end
mutual
theorem At.imp {p q : Nat → Prop} {W : World} (hk : ∀ b, p b → q b) : ∀ (t : Tn) (cs : List Value), At p W t cs → At q W t cs
  | .mk d l, cs, h => by
    rw [At] at h ⊢
    obtain ⟨A, c, h1, h2, h3⟩ := h
    refine ⟨A, c, h1, h2, fun hl => ?_⟩
    obtain ⟨b, o, e1, e2, e3⟩ := h3 hl
    exact ⟨b, o, e1, hk b e2, AtL.imp hk b o l e3⟩
theorem AtL.imp {p q : Nat → Prop} {W : World} (hk : ∀ b, p b → q b) (b : Nat) : ∀ (o : Nat) (l : List Tn), AtL p W b o l → AtL q W b o l
  | o, [], _ => by rw [AtL]; trivial
  | o, t :: l, h => by
    rw [AtL] at h ⊢
    obtain ⟨⟨cs, h1, h2⟩, h3⟩ := h
    exact ⟨⟨cs, h1, At.imp hk t cs h2⟩, AtL.imp hk b (o + 7) l h3⟩
end
theorem AtS.keep {p : Nat → Prop} {W W' : World} {l : List Tn} {s : Value} (h : AtS p W l s) (hk : Same p W W') : AtS p W' l s := by
  obtain ⟨A, c, h1, h2, h3⟩ := h
  refine ⟨A, c, h1, h2, fun hl => ?_⟩
  obtain ⟨b, o, e1, e2, e3⟩ := h3 hl
  exact ⟨b, o, e1, e2, AtL.keep hk b e2 o l e3⟩
theorem AtS.imp {p q : Nat → Prop} {W : World} {l : List Tn} {s : Value} (h : AtS p W l s) (hk : ∀ b, p b → q b) : AtS q W l s := by
  obtain ⟨A, c, h1, h2, h3⟩ := h
  refine ⟨A, c, h1, h2, fun hl => ?_⟩
  obtain ⟨b, o, e1, e2, e3⟩ := h3 hl
  exact ⟨b, o, e1, hk b e2, AtL.imp hk b o l e3⟩
theorem Same.below {n : Nat} {W W' : World} (h : Below n W W') : Same (fun b => b < n) W W' := fun b hb _ => h.block b hb
theorem Same.kp {n s : Nat} {W W' : World} {p : Nat → Prop} (h : ∀ b, p b → b < n ∨ s ≤ b) (k : ∀ b, b < W.heap.size → (b < n ∨ s ≤ b) → W'.heap[b]? = W.heap[b]?) : Same p W W' := fun b hb hl => k b hl (h b hb)
/-- The i-th node of a row. -/
theorem AtL.nth {p : Nat → Prop} {W : World} {b : Nat} : ∀ {o : Nat} {l : List Tn} {i : Nat} {t : Tn}, AtL p W b o l → l[i]? = some t → ∃ cs, W.rangeAt b (o + i * 7) cs ∧ At p W t cs
  | o, [], i, t, _, hi => by simp at hi
  | o, x :: l, 0, t, h, hi => by
    rw [AtL] at h
    obtain rfl : x = t := by simpa using hi
    simpa using h.1
  | o, x :: l, i + 1, t, h, hi => by
    rw [AtL] at h
    have := AtL.nth (i := i) (t := t) h.2 (by simpa using hi)
    rw [show o + (i + 1) * 7 = o + 7 + i * 7 by omega]
    exact this
theorem at_parts {p : Nat → Prop} {W : World} {t : Tn} {cs : List Value} (h : At p W t cs) : ∃ s, cs = celN t.datum s ∧ AtS p W t.kids s := by
  obtain ⟨d, l⟩ := t
  exact at_node.1 h
/-- The i-th node of a slice. -/
theorem AtS.nth {p : Nat → Prop} {W : World} {l : List Tn} {A : Option Addr} {k c i : Nat} {t : Tn} (h : AtS p W l (.slice A k c)) (hi : l[i]? = some t) :
    ∃ b o s, A = some ⟨b, o, none⟩ ∧ k = l.length ∧ p b ∧ W.rangeAt b (o + i * 7) (celN t.datum s) ∧ AtS p W t.kids s := by
  obtain ⟨A', c', h1, h2, h3⟩ := h
  cases h1
  obtain ⟨b, o, e1, e2, e3⟩ := h3 (by rintro rfl; simp at hi)
  obtain ⟨cs, r, g⟩ := e3.nth hi
  obtain ⟨s, rfl, g2⟩ := at_parts g
  exact ⟨b, o, s, e1, rfl, e2, r, g2⟩
end Go.Proofs.YtjbofhaiephedaaGreat
