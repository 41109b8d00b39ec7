/-
   Trees as they lie in memory: a node's cells, a row of nodes. No program in it. A range over a function whose items lie in memory that the iterator itself writes between two rounds: the iterator's word to the loop, and the loop's law. No program in it. A tree's levels, one by one. No program in it.
-/
import Derived.ProofKit
import Derived.OpenShut
import Derived.Below
import Derived.Deep.MidRow
import Derived.Laws.Cells
import Derived.RangeFuncCalls
import Derived.RangeFuncLeaves
import Derived.OwnWalkIn
namespace Go.Proofs.YtfpmhahjemdodaaGreatDoor
/-- A tree: what stands in its node, and its Kids. -/
inductive Tr (α : Type) where
  | mk : α → List (Tr α) → Tr α

namespace Tr
variable {α : Type}
def kids : Tr α → List (Tr α) | mk _ l => l
def datum : Tr α → α | mk a _ => a
mutual
def size : Tr α → Nat | mk _ l => sizes l + 1
def sizes : List (Tr α) → Nat | [] => 0 | x :: l => size x + sizes l
end
mutual
def depth : Tr α → Nat | mk _ l => depths l + 1
def depths : List (Tr α) → Nat | [] => 0 | x :: l => max (depth x) (depths l)
end
theorem size_eq (x : Tr α) : x.size = sizes x.kids + 1 := by cases x; simp [size, kids]
theorem depth_eq (x : Tr α) : x.depth = depths x.kids + 1 := by cases x; simp [depth, kids]
theorem sizes_append (a b : List (Tr α)) : sizes (a ++ b) = sizes a + sizes b := by
  induction a with
  | nil => simp [sizes]
  | cons x a ih => simp [sizes, ih]; omega
theorem depths_append (a b : List (Tr α)) : depths (a ++ b) = max (depths a) (depths b) := by
  induction a with
  | nil => simp [depths]
  | cons x a ih => simp [depths, ih]
theorem size_pos (x : Tr α) : 1 ≤ x.size := by rw [size_eq]; omega
theorem depth_pos (x : Tr α) : 1 ≤ x.depth := by rw [depth_eq]; omega

/-- The trees one level below. -/
def under (l : List (Tr α)) : List (Tr α) := l.flatMap kids
theorem sizes_under (l : List (Tr α)) : sizes l = l.length + sizes (under l) := by
  induction l with
  | nil => simp [sizes, under]
  | cons x l ih =>
    have h : under (x :: l) = x.kids ++ under l := by simp [under]
    rw [sizes, h, sizes_append, size_eq, ih, List.length_cons]; omega
theorem depths_under (x : Tr α) (l : List (Tr α)) : depths (x :: l) = depths (under (x :: l)) + 1 := by
  induction l generalizing x with
  | nil => simp [depths, under, depth_eq]
  | cons y l ih =>
    have h : under (x :: y :: l) = x.kids ++ under (y :: l) := by simp [under]
    rw [depths, h, depths_append, depth_eq, ih y]; omega

/-- The lists of Kids, but for empty ones, of the lists of a level. -/
def lower (L : List (List (Tr α))) : List (List (Tr α)) := (L.flatten.map kids).filter (fun l => !l.isEmpty)
theorem flatten_filter (M : List (List (Tr α))) : (M.filter (fun l => !l.isEmpty)).flatten = M.flatten := by
  induction M with
  | nil => rfl
  | cons l M ih =>
    cases l with
    | nil => simpa using ih
    | cons x l => simp [List.filter, ih]
theorem lower_flatten (L : List (List (Tr α))) : (lower L).flatten = under L.flatten := by
  rw [lower, flatten_filter, under, List.flatMap_def]
theorem lower_full (L : List (List (Tr α))) : ∀ l ∈ lower L, l ≠ [] := by
  intro l hl
  rw [lower, List.mem_filter] at hl
  rintro rfl
  simp at hl

/-- How the levels are measured: so many nodes and levels had been; `m` is the most. -/
def meas (m : Nat) : Nat → List (List (Tr α)) → Nat → Nat → Nat × Nat
  | 0, _, s, d => (s, d)
  | f + 1, L, s, d => if L.isEmpty then (s, d) else
    if m < s + L.flatten.length then (0, 0) else meas m f (lower L) (s + L.flatten.length) (d + 1)
theorem meas_eq (m : Nat) : ∀ (f : Nat) (L : List (List (Tr α))) (s d : Nat), (∀ l ∈ L, l ≠ []) → depths L.flatten < f → s ≤ m →
    meas m f L s d = if m < s + sizes L.flatten then (0, 0) else (s + sizes L.flatten, d + depths L.flatten) := by
  intro f
  induction f with
  | zero => intro L s d _ h; omega
  | succ f ih =>
    intro L s d hL hf hs
    cases L with
    | nil => simp [meas, sizes, depths]; omega
    | cons l L =>
      have hl : l ≠ [] := hL l (by simp)
      obtain ⟨x, l, rfl⟩ := List.exists_cons_of_ne_nil hl
      have e1 := sizes_under ((x :: l) :: L).flatten
      have e2 : depths ((x :: l) :: L).flatten = depths (under ((x :: l) :: L).flatten) + 1 := by
        simp only [List.flatten_cons, List.cons_append]; exact depths_under _ _
      rw [← lower_flatten] at e1 e2
      rw [meas, if_neg (by simp)]
      by_cases hm : m < s + ((x :: l) :: L).flatten.length
      · rw [if_pos hm, if_pos (by omega)]
      · rw [if_neg hm, ih _ _ _ (lower_full _) (by omega) (by omega), e1, e2, ← Nat.add_assoc, ← Nat.add_assoc, Nat.add_right_comm d]
theorem meas_tree (m : Nat) (hm : 0 < m) (x : Tr α) : meas m (x.depth + 1) [[x]] 0 0 = if m < x.size then (0, 0) else (x.size, x.depth) := by
  have h : ([[x]] : List (List (Tr α))).flatten = [x] := rfl
  rw [meas_eq m _ _ _ _ (by simp) (by rw [h]; simp [depths]) (by omega), h]
  simp [sizes, depths]

mutual
/-- How many nodes there are and had been, counted one by one till they are too many. -/
def counted (m : Nat) : Tr α → Nat → Nat | mk _ l, h => countL m l (h + 1)
def countL (m : Nat) : List (Tr α) → Nat → Nat | [], h => h | x :: l, h => if h ≤ m then countL m l (counted m x h) else h
end
mutual
theorem counted_eq (m : Nat) : ∀ (x : Tr α) (h : Nat), h ≤ m → counted m x h = min (h + x.size) (m + 1)
  | mk a l, h, hh => by
    rw [counted, countL_eq m l (h + 1) (by omega), size]; omega
theorem countL_eq (m : Nat) : ∀ (l : List (Tr α)) (h : Nat), h ≤ m + 1 → countL m l h = min (h + sizes l) (m + 1)
  | [], h, hh => by rw [countL, sizes]; omega
  | x :: l, h, hh => by
    rw [countL, sizes]
    split
    · rename_i hm
      rw [counted_eq m x h hm, countL_eq m l _ (by omega)]; omega
    · omega
end
end Tr
end Go.Proofs.YtfpmhahjemdodaaGreatDoor
namespace Go.Proofs.YtfpmhahjemdodaaGreatDoor
open Go.RowKit
/-- What stands in a node, but for its Kids. -/
structure Nd where
  k : Int
  op : ByteArray
  st : ByteArray
  nm : Nat
  fl : Bool
  ps : Int
abbrev Tn := Tr Nd
def celN (d : Nd) (s : Value) : List Value := [.int .i64 d.k, .string d.op, .string d.st, .float .f64 d.nm, .bool d.fl, s, .int .i64 d.ps]
def nodV (d : Nd) (s : Value) : Value := .agg #[.int .i64 d.k, .string d.op, .string d.st, .float .f64 d.nm, .bool d.fl, s, .int .i64 d.ps]
mutual
/-- A node's cells; all that is below it lies in blocks of p. -/
def At (p : Nat → Prop) (W : World) : Tn → List Value → Prop
  | .mk d l, cs => ∃ A c, cs = celN d (.slice A l.length c) ∧ (l.length ≤ maxLen ∧ l.length ≤ c) ∧ (l ≠ [] → ∃ b o, A = some ⟨b, o, none⟩ ∧ p b ∧ AtL p W b o l)
/-- Nodes, one behind the other. -/
def AtL (p : Nat → Prop) (W : World) (b : Nat) : Nat → List Tn → Prop
  | _, [] => True
  | o, t :: l => (∃ cs, W.rangeAt b o cs ∧ At p W t cs) ∧ AtL p W b (o + 7) l
end
/-- A slice of nodes. -/
def AtS (p : Nat → Prop) (W : World) (l : List Tn) (s : Value) : Prop :=
  ∃ A c, s = .slice A l.length c ∧ (l.length ≤ maxLen ∧ l.length ≤ c) ∧ (l ≠ [] → ∃ b o, A = some ⟨b, o, none⟩ ∧ p b ∧ AtL p W b o l)
theorem at_node {p : Nat → Prop} {W : World} {d : Nd} {l : List Tn} {cs : List Value} : At p W (.mk d l) cs ↔ ∃ s, cs = celN d s ∧ AtS p W l s := by
  unfold AtS
  rw [At]
  constructor
  · rintro ⟨A, c, rfl, h1, h2⟩
    exact ⟨_, rfl, A, c, rfl, h1, h2⟩
  · rintro ⟨_, rfl, A, c, rfl, h1, h2⟩
    exact ⟨A, c, rfl, h1, h2⟩
theorem at_seven {p : Nat → Prop} {W : World} : ∀ {t : Tn} {cs : List Value}, At p W t cs → ∃ v r, cs = v :: r
  | .mk d l, cs, h => by
    obtain ⟨s, rfl, _⟩ := at_node.1 h
    exact ⟨_, _, rfl⟩
theorem cell_lt {W : World} {b o : Nat} {v : Value} (h : W.cell? ⟨b, o, none⟩ = some v) : b < W.heap.size := by
  rcases Nat.lt_or_ge b W.heap.size with h' | h'
  · exact h'
  · simp [World.cell?, Array.getElem?_eq_none h'] at h
/-- The blocks of p lie as they lay. -/
def Same (p : Nat → Prop) (W W' : World) : Prop := ∀ b, p b → b < W.heap.size → W'.heap[b]? = W.heap[b]?
mutual
theorem At.keep {p : Nat → Prop} {W W' : World} (hk : Same p W W') : ∀ (t : Tn) (cs : List Value), At p W t cs → At p W' t cs
  | .mk d l, cs, h => by
    rw [At] at h ⊢
    obtain ⟨A, c, h1, h2, h3⟩ := h
    refine ⟨A, c, h1, h2, fun hl => ?_⟩
    obtain ⟨b, o, e1, e2, e3⟩ := h3 hl
    exact ⟨b, o, e1, e2, AtL.keep hk b e2 o l e3⟩
theorem AtL.keep {p : Nat → Prop} {W W' : World} (hk : Same p W W') (b : Nat) (hp : p b) : ∀ (o : Nat) (l : List Tn), AtL p W b o l → AtL p W' b o l
  | o, [], _ => by rw [AtL]; trivial
  | o, t :: l, h => by
    rw [AtL] at h ⊢
    obtain ⟨⟨cs, h1, h2⟩, h3⟩ := h
    refine ⟨⟨cs, fun j v hv => ?_, At.keep hk t cs h2⟩, AtL.keep hk b hp (o + 7) l h3⟩
    have h4 := h1 j v hv
    exact (World.cell?_of_block (hk b hp (cell_lt h4))).trans h4
end
mutual
theorem At.imp {p q : Nat → Prop} {W : World} (hk : ∀ b, p b → q b) : ∀ (t : Tn) (cs : List Value), At p W t cs → At q W t cs
  | .mk d l, cs, h => by
    rw [At] at h ⊢
    obtain ⟨A, c, h1, h2, h3⟩ := h
    refine ⟨A, c, h1, h2, fun hl => ?_⟩
    obtain ⟨b, o, e1, e2, e3⟩ := h3 hl
    exact ⟨b, o, e1, hk b e2, AtL.imp hk b o l e3⟩
theorem AtL.imp {p q : Nat → Prop} {W : World} (hk : ∀ b, p b → q b) (b : Nat) : ∀ (o : Nat) (l : List Tn), AtL p W b o l → AtL q W b o l
  | o, [], _ => by rw [AtL]; trivial
  | o, t :: l, h => by
    rw [AtL] at h ⊢
    obtain ⟨⟨cs, h1, h2⟩, h3⟩ := h
    exact ⟨⟨cs, h1, At.imp hk t cs h2⟩, AtL.imp hk b (o + 7) l h3⟩
end
theorem AtS.keep {p : Nat → Prop} {W W' : World} {l : List Tn} {s : Value} (h : AtS p W l s) (hk : Same p W W') : AtS p W' l s := by
  obtain ⟨A, c, h1, h2, h3⟩ := h
  refine ⟨A, c, h1, h2, fun hl => ?_⟩
  obtain ⟨b, o, e1, e2, e3⟩ := h3 hl
  exact ⟨b, o, e1, e2, AtL.keep hk b e2 o l e3⟩
theorem AtS.imp {p q : Nat → Prop} {W : World} {l : List Tn} {s : Value} (h : AtS p W l s) (hk : ∀ b, p b → q b) : AtS q W l s := by
  obtain ⟨A, c, h1, h2, h3⟩ := h
  refine ⟨A, c, h1, h2, fun hl => ?_⟩
  obtain ⟨b, o, e1, e2, e3⟩ := h3 hl
  exact ⟨b, o, e1, hk b e2, AtL.imp hk b o l e3⟩
theorem Same.below {n : Nat} {W W' : World} (h : Below n W W') : Same (fun b => b < n) W W' := fun b hb _ => h.block b hb
theorem Same.kp {n s : Nat} {W W' : World} {p : Nat → Prop} (h : ∀ b, p b → b < n ∨ s ≤ b) (k : ∀ b, b < W.heap.size → (b < n ∨ s ≤ b) → W'.heap[b]? = W.heap[b]?) : Same p W W' := fun b hb hl => k b hl (h b hb)
/-- The i-th node of a row. -/
theorem AtL.nth {p : Nat → Prop} {W : World} {b : Nat} : ∀ {o : Nat} {l : List Tn} {i : Nat} {t : Tn}, AtL p W b o l → l[i]? = some t → ∃ cs, W.rangeAt b (o + i * 7) cs ∧ At p W t cs
  | o, [], i, t, _, hi => by simp at hi
  | o, x :: l, 0, t, h, hi => by
    rw [AtL] at h
    obtain rfl : x = t := by simpa using hi
    simpa using h.1
  | o, x :: l, i + 1, t, h, hi => by
    rw [AtL] at h
    have := AtL.nth (i := i) (t := t) h.2 (by simpa using hi)
    rw [show o + (i + 1) * 7 = o + 7 + i * 7 by omega]
    exact this
theorem at_parts {p : Nat → Prop} {W : World} {t : Tn} {cs : List Value} (h : At p W t cs) : ∃ s, cs = celN t.datum s ∧ AtS p W t.kids s := by
  obtain ⟨d, l⟩ := t
  exact at_node.1 h
/-- The i-th node of a slice. -/
theorem AtS.nth {p : Nat → Prop} {W : World} {l : List Tn} {A : Option Addr} {k c i : Nat} {t : Tn} (h : AtS p W l (.slice A k c)) (hi : l[i]? = some t) :
    ∃ b o s, A = some ⟨b, o, none⟩ ∧ k = l.length ∧ p b ∧ W.rangeAt b (o + i * 7) (celN t.datum s) ∧ AtS p W t.kids s := by
  obtain ⟨A', c', h1, h2, h3⟩ := h
  cases h1
  obtain ⟨b, o, e1, e2, e3⟩ := h3 (by rintro rfl; simp at hi)
  obtain ⟨cs, r, g⟩ := e3.nth hi
  obtain ⟨s, rfl, g2⟩ := at_parts g
  exact ⟨b, o, s, e1, rfl, e2, r, g2⟩
end Go.Proofs.YtfpmhahjemdodaaGreatDoor
namespace Go.Proofs.YtfpmhahjemdodaaGreatDoor
open Go.RowKit
/-- What a round leaves as it lay: all ahead of n, and all from s on. -/
structure Kp (n s : Nat) (W W' : World) : Prop where
  size : W.heap.size ≤ W'.heap.size
  same : ∀ b, b < W.heap.size → (b < n ∨ s ≤ b) → W'.heap[b]? = W.heap[b]?
theorem Kp.refl (n s : Nat) (W : World) : Kp n s W W := ⟨Nat.le_refl _, fun _ _ _ => rfl⟩
theorem Kp.trans {n s : Nat} {A B C : World} (h : Kp n s A B) (k : Kp n s B C) : Kp n s A C :=
  ⟨Nat.le_trans h.size k.size, fun b hb hs => (k.same b (Nat.lt_of_lt_of_le hb h.size) hs).trans (h.same b hb hs)⟩
theorem Kp.mono {n s n' s' : Nat} {A B : World} (h : Kp n s A B) (hn : n' ≤ n) (hs : s ≤ s') : Kp n' s' A B :=
  ⟨h.size, fun b hb k => h.same b hb (by omega)⟩
theorem Kp.of_below {n s : Nat} {A B : World} (h : Below A.heap.size A B) : Kp n s A B := ⟨h.size, fun b hb _ => h.block b hb⟩
theorem Kp.putObj {n s l : Nat} (W : World) (o : Obj) (hn : n ≤ l) (hl : l < s) : Kp n s W (W.putObj l o) :=
  ⟨by simp, fun b _ h => World.putObj_heap_other (by omega)⟩
theorem Kp.setCell {n s : Nat} {W : World} {a : Addr} (v : Value) (hn : n ≤ a.block) (hs : a.block < s) : Kp n s W (W.setCell a v) :=
  ⟨by simp [World.setCell], fun b _ h => Below.heap_setCell _ _ _ _ (by omega)⟩
theorem below_put {B l : Nat} (W : World) (o : Obj) (h : B ≤ l) : Below B W (W.putObj l o) :=
  ⟨rfl, rfl, rfl, by simp, fun k hk => World.putObj_heap_other (by omega)⟩
/-- An iterator: it tells N items; `X s k W v`: in the world W the k-th one is v, what it made itself lying from s on. -/
def Itr (P : Program) (gf : Nat) (lb : Array Value) (n N : Nat) (X : Nat → Nat → World → Value → Prop) (w : World) : Prop :=
  ∀ (l : Nat) (J Jx : Nat → World → Prop) (W : World), Below w.heap.size w W →
    (∀ k A B, J k A → W.heap.size ≤ A.heap.size → Below W.heap.size A B → J k B) →
    (∀ k A B, Jx k A → W.heap.size ≤ A.heap.size → Below W.heap.size A B → Jx k B) →
    (∀ k W1 v, k < N → J k W1 → W.heap.size ≤ W1.heap.size → X W.heap.size k W1 v → YieldAt Fence.wide 0 P l #[v] W1 fun e W' =>
      (e = .returned (.bool true) ∧ J (k + 1) W' ∧ Kp n W.heap.size W1 W') ∨ (e = .returned (.bool false) ∧ Jx k W' ∧ Kp n W.heap.size W1 W')) →
    J 0 W →
    CallsIn Fence.wide 0 P gf (#[.func (.yield l) #[] #[]] ++ lb) W fun e W' => (∃ v, e = .returned v) ∧ (J N W' ∨ ∃ k, k < N ∧ Jx k W')
/-- How a round may be left. -/
def rngPost (n s k : Nat) (I : Nat → World → Prop) (Ix : Code → Nat → World → Prop) (W : World) : Exit → Act → World → Prop
  | .normal, _, W' => Kp n s W W' ∧ I (k + 1) W'
  | .ret, _, W' => Kp n s W W' ∧ Ix .ret k W'
  | .exit id, _, W' => Kp n s W W' ∧ Ix (.exit id) k W'
  | .goto t, _, W' => Kp n s W W' ∧ Ix (.goto t) k W'
  | .panic _, _, _ => False
  | .outgrown, _, _ => False
theorem wp_range {P : Program} {g : Operand} {p : Tmp} {assign body : Code} {Q : Exit → Act → World → Prop} {a : Act} {w : World} {gf : Nat} {lb : Array Value}
    (hg : a.eval g = .func (.func gf) #[] lb) (eg : ∀ args w, (callFunc gf args).run P w = .ok (.enter gf args) w)
    {n N : Nat} {X : Nat → Nat → World → Value → Prop} {w0 : World} (hseq : Itr P gf lb n N X w0) (hb0 : Below w0.heap.size w0 w) (hn : n ≤ w.heap.size)
    (hX : ∀ k A B v, X (w.heap.size + 2) k A v → Kp n (w.heap.size + 2) A B → X (w.heap.size + 2) k B v)
    (I : Nat → World → Prop) (Ix : Code → Nat → World → Prop)
    (hI : ∀ k A B, I k A → w.heap.size ≤ A.heap.size → Below w.heap.size A B → I k B)
    (hIx : ∀ c k A B, Ix c k A → w.heap.size ≤ A.heap.size → Below w.heap.size A B → Ix c k B)
    (h0 : I 0 w) (a₁ : Value → Act)
    (hassign : ∀ (l : Nat) (v : Value) (W : World) (K : Act → World → Prop), K (a₁ v) W →
      assign.wpIn (Fence.wide.inRound l) 0 P (Exit.then K (fun _ _ _ => False)) { tmps := (#[p].zip #[v]).foldl (fun t (p, v) => t.setIfInBounds p v) a.tmps, defers := [] } W)
    (hbody : ∀ (l k : Nat) (v : Value) (W : World), k < N → I k W → w.heap.size + 2 ≤ W.heap.size → X (w.heap.size + 2) k W v →
      body.wpIn (Fence.wide.inRound l) 0 P (rngPost n w.heap.size k I Ix W) (a₁ v) W)
    (hdone : ∀ (D : Nat) (W : World), w.heap.size ≤ D → I N W → W.heap[D]? = some (.deferred (some [])) → Q .normal { a with defers := { target := .collected D, args := #[] } :: a.defers } W)
    (hstop : ∀ (D : Nat) (c : Code) (k : Nat) (W : World), w.heap.size ≤ D → k < N → Ix c k W → W.heap[D]? = some (.deferred (some [])) →
      c.wpIn Fence.wide 0 P Q { a with defers := { target := .collected D, args := #[] } :: a.defers } W) :
    (Code.rangeFunc g #[p] assign body).wpIn Fence.wide 0 P Q a w := by
  refine wpIn_rangeFunc fun fn _ => ?_
  let R : LoopState → Option Code → Obj := fun st pe => .loop { state := st, pending := pe, fn := fn, tmps := a.tmps, params := #[p], assign := assign, body := body, defers := w.heap.size }
  let s := w.heap.size
  let W1 := (w.alloc (.deferred (some []))).alloc (R .ready none)
  have z1 : W1.heap.size = s + 2 := by simp [W1, s]
  have hL1 : W1.heap[s + 1]? = some (R .ready none) := by
    have := World.alloc_heap_new (w.alloc (.deferred (some []))) (R .ready none)
    rwa [World.size_alloc] at this
  have hD1 : W1.heap[s]? = some (.deferred (some [])) := (Below.heap_alloc _ _ _ (by simp [s])).trans (World.alloc_heap_new w _)
  have b1 : Below s w W1 := ((Below.refl s w).alloc (Nat.le_refl _) _).alloc (by simp [s]) _
  refine ⟨s + 1, [{ target := .collected s, args := #[] }], W1, { target := .fn (.func gf) lb, args := #[.func (.yield (s + 1)) #[] #[]] }, W1, gf, #[.func (.yield (s + 1)) #[] #[]] ++ lb, W1,
    run_enterLoop_outer _ _ _ _ _, ?_, fun _ _ => trivial, ?_, (fun h => by cases h), ?_⟩
  · simp only [resolve, hg]
    simp [go_sem]
  · simp [invoke, go_sem, eg]
  · refine (hseq (s + 1) (fun k W => I k W ∧ W.heap[s + 1]? = some (R .ready none) ∧ W.heap[s]? = some (.deferred (some [])))
      (fun k W => ∃ c, Ix c k W ∧ W.heap[s + 1]? = some (R .done (some c)) ∧ W.heap[s]? = some (.deferred (some []))) W1 (hb0.trans (b1.mono hb0.size)) ?_ ?_ ?_ ⟨hI _ _ _ h0 (Nat.le_refl _) b1, hL1, hD1⟩).mono ?_
    · rintro k A B ⟨h1, h2, h3⟩ hs hb
      rw [z1] at hs hb
      exact ⟨hI _ _ _ h1 (by omega) (hb.mono (by omega)), (hb.block _ (by omega)).trans h2, (hb.block _ (by omega)).trans h3⟩
    · rintro k A B ⟨c, h1, h2, h3⟩ hs hb
      rw [z1] at hs hb
      exact ⟨c, hIx _ _ _ _ h1 (by omega) (hb.mono (by omega)), (hb.block _ (by omega)).trans h2, (hb.block _ (by omega)).trans h3⟩
    · rw [z1]
      rintro k W v hk ⟨hi, hl, hd⟩ hs hx
      refine ⟨fn, _, assign, body, run_yield hl rfl, roundIn_of_wpIn trivial (hassign _ v W _ ⟨_, run_beginRound hl rfl, ?_⟩)⟩
      let Wb := W.putObj (s + 1) (R .busy none)
      have kb : Kp n (s + 2) W Wb := Kp.putObj _ _ (by omega) (by omega)
      have hlb : Wb.heap[s + 1]? = some (R .busy none) := World.putObj_heap_same (by omega)
      have hdb : Wb.heap[s]? = some (.deferred (some [])) := (World.putObj_heap_other (by omega)).trans hd
      have zb : Wb.heap.size = W.heap.size := by simp [Wb]
      refine wpIn_mono (hbody _ k v Wb hk (hI _ _ _ hi (by omega) (below_put _ _ (by omega))) (by rw [zb]; exact hs) (hX _ _ _ _ hx kb)) ?_
      have fin : ∀ (st : LoopState) (j : Option Code) (W3 : World), Kp n s Wb W3 → st = (if j.isNone then .ready else .done) →
          (Instr.endRound (s + 1) j).run P W3 = .ok (.bool j.isNone) (W3.putObj (s + 1) (R st j)) ∧ (W3.putObj (s + 1) (R st j)).heap[s + 1]? = some (R st j) ∧ (W3.putObj (s + 1) (R st j)).heap[s]? = some (.deferred (some [])) ∧
          Kp n (s + 2) W (W3.putObj (s + 1) (R st j)) ∧ Below s W3 (W3.putObj (s + 1) (R st j)) ∧ s ≤ W3.heap.size := by
        intro st j W3 h3 hst
        have hl3 : W3.heap[s + 1]? = some (R .busy none) := (h3.same _ (by omega) (by omega)).trans hlb
        have hd3 : W3.heap[s]? = some (.deferred (some [])) := (h3.same _ (by omega) (by omega)).trans hdb
        have z3 := h3.size
        subst hst
        exact ⟨run_endRound j hl3, World.putObj_heap_same (by omega), (World.putObj_heap_other (by omega)).trans hd3, (kb.trans (h3.mono (Nat.le_refl _) (by omega))).trans (Kp.putObj _ _ (by omega) (by omega)), below_put _ _ (by omega), by omega⟩
      rintro e a3 W3 hp
      cases e with
      | normal =>
        obtain ⟨h3, hi3⟩ := hp
        obtain ⟨f1, f2, f3, f4, f5, f6⟩ := fin .ready none W3 h3 rfl
        exact ⟨_, _, f1, .inl ⟨rfl, ⟨hI _ _ _ hi3 f6 f5, f2, f3⟩, f4⟩⟩
      | ret =>
        obtain ⟨h3, hi3⟩ := hp
        obtain ⟨f1, f2, f3, f4, f5, f6⟩ := fin .done (some .ret) W3 h3 rfl
        exact ⟨_, _, f1, .inr ⟨rfl, ⟨_, hIx _ _ _ _ hi3 f6 f5, f2, f3⟩, f4⟩⟩
      | exit id =>
        obtain ⟨h3, hi3⟩ := hp
        obtain ⟨f1, f2, f3, f4, f5, f6⟩ := fin .done (some (.exit id)) W3 h3 rfl
        exact ⟨_, _, f1, .inr ⟨rfl, ⟨_, hIx _ _ _ _ hi3 f6 f5, f2, f3⟩, f4⟩⟩
      | goto t =>
        obtain ⟨h3, hi3⟩ := hp
        obtain ⟨f1, f2, f3, f4, f5, f6⟩ := fin .done (some (.goto t)) W3 h3 rfl
        exact ⟨_, _, f1, .inr ⟨rfl, ⟨_, hIx _ _ _ _ hi3 f6 f5, f2, f3⟩, f4⟩⟩
      | panic c => exact hp.elim
      | outgrown => exact hp.elim
    · rintro e W ⟨⟨v, rfl⟩, h⟩
      rcases h with ⟨hi, hl, hd⟩ | ⟨k, hk, c, hi, hl, hd⟩
      · refine ⟨none, _, run_endLoop hl (by simp), ?_⟩
        have hs := (Array.getElem?_eq_some_iff.1 hl).1
        exact hdone s _ (Nat.le_refl _) (hI _ _ _ hi (by omega) (below_put _ _ (by omega))) ((World.putObj_heap_other (by omega)).trans hd)
      · refine ⟨some c, _, run_endLoop hl (by simp), ?_⟩
        have hs := (Array.getElem?_eq_some_iff.1 hl).1
        exact hstop s c k _ (Nat.le_refl _) hk (hIx _ _ _ _ hi (by omega) (below_put _ _ (by omega))) ((World.putObj_heap_other (by omega)).trans hd)
end Go.Proofs.YtfpmhahjemdodaaGreatDoor
namespace Go.Proofs.YtfpmhahjemdodaaGreatDoor
namespace Tr
variable {α : Type}
/-- The lists of the k-th level. -/
def lev (t : Tr α) : Nat → List (List (Tr α))
  | 0 => [[t]]
  | k + 1 => lower (lev t k)
/-- How many nodes the levels ahead of the k-th one have. -/
def szs (t : Tr α) : Nat → Nat
  | 0 => 0
  | k + 1 => szs t k + (lev t k).flatten.length
theorem lev_full (t : Tr α) : ∀ k, ∀ l ∈ lev t k, l ≠ []
  | 0 => by simp [lev]
  | k + 1 => by rw [lev]; exact lower_full _
theorem szs_rest (t : Tr α) : ∀ k, szs t k + sizes (lev t k).flatten = t.size
  | 0 => by simp [szs, lev, sizes]
  | k + 1 => by
    have := szs_rest t k
    rw [sizes_under] at this
    rw [szs, lev, lower_flatten]
    omega
theorem depths_lower {L : List (List (Tr α))} (hL : ∀ l ∈ L, l ≠ []) (h : L ≠ []) : depths L.flatten = depths (lower L).flatten + 1 := by
  obtain ⟨l, M, rfl⟩ := List.exists_cons_of_ne_nil h
  obtain ⟨x, r, rfl⟩ := List.exists_cons_of_ne_nil (hL l (by simp))
  rw [lower_flatten]
  simp only [List.flatten_cons, List.cons_append]
  exact depths_under _ _
theorem lev_depth (t : Tr α) : ∀ k, depths (lev t k).flatten = t.depth - k
  | 0 => by simp [lev, depths]
  | k + 1 => by
    have h := lev_depth t k
    rw [lev]
    by_cases he : lev t k = []
    · rw [he] at h ⊢
      have e0 : depths (lower ([] : List (List (Tr α)))).flatten = 0 := by simp [lower, depths]
      have e1 : depths ([] : List (List (Tr α))).flatten = 0 := by simp [depths]
      omega
    · have := depths_lower (lev_full t k) he
      omega
theorem lev_none {t : Tr α} {k : Nat} : lev t k = [] ↔ t.depth ≤ k := by
  have h := lev_depth t k
  constructor
  · intro e
    rw [e] at h
    have e1 : depths ([] : List (List (Tr α))).flatten = 0 := by simp [depths]
    omega
  · intro hk
    by_cases he : lev t k = []
    · exact he
    · have := depths_lower (lev_full t k) he
      omega
theorem szs_all (t : Tr α) : szs t t.depth = t.size := by
  have h := szs_rest t t.depth
  rw [lev_none.2 (Nat.le_refl _)] at h
  simpa [sizes] using h
theorem szs_le (t : Tr α) (k : Nat) : szs t k ≤ t.size := by have := szs_rest t k; omega
/-- All nodes, level by level. -/
def all (t : Tr α) : Nat → List (Tr α)
  | 0 => []
  | k + 1 => all t k ++ (lev t k).flatten
theorem all_len (t : Tr α) : ∀ k, (all t k).length = szs t k
  | 0 => rfl
  | k + 1 => by rw [all, szs, List.length_append, all_len t k]
mutual
/-- Does something hold of a tree and of all that is within? -/
def every (p : Tr α → Bool) : Tr α → Bool | mk a l => p (mk a l) && everyL p l
def everyL (p : Tr α → Bool) : List (Tr α) → Bool | [] => true | x :: l => every p x && everyL p l
end
theorem every_eq (p : Tr α → Bool) (t : Tr α) : every p t = (p t && everyL p t.kids) := by cases t; simp [every, kids]
theorem everyL_append (p : Tr α → Bool) (a b : List (Tr α)) : everyL p (a ++ b) = (everyL p a && everyL p b) := by
  induction a with
  | nil => simp [everyL]
  | cons x a ih => simp [everyL, ih, Bool.and_assoc]
theorem everyL_under (p : Tr α → Bool) (l : List (Tr α)) : everyL p l = (l.all p && everyL p (under l)) := by
  induction l with
  | nil => simp [everyL, under]
  | cons x l ih =>
    have h : under (x :: l) = x.kids ++ under l := by simp [under]
    rw [everyL, every_eq, ih, h, everyL_append, List.all_cons]
    ac_rfl
theorem every_rest (p : Tr α → Bool) (t : Tr α) : ∀ k, every p t = ((all t k).all p && everyL p (lev t k).flatten)
  | 0 => by simp [all, lev, everyL]
  | k + 1 => by
    rw [every_rest p t k, everyL_under, all, lev, lower_flatten, List.all_append, Bool.and_assoc]
theorem every_all (p : Tr α → Bool) (t : Tr α) : every p t = (all t t.depth).all p := by
  rw [every_rest p t t.depth, lev_none.2 (Nat.le_refl _)]
  simp [everyL]
end Tr
end Go.Proofs.YtfpmhahjemdodaaGreatDoor
