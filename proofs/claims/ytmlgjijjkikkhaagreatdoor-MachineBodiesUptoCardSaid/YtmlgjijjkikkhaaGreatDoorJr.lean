/-
  A range over a function whose items lie in memory that the iterator itself writes between two rounds: the iterator's word to the loop, and the loop's law. No program in it.
-/
import Derived.RangeFuncCalls
import Derived.RangeFuncLeaves
import Derived.Below
import Derived.OwnWalkIn
namespace Go.Proofs.YtmlgjijjkikkhaaGreatDoor
open Go.RowKit
/-- What a round leaves as it lay: all ahead of n, and all from s on. -/
structure Kp (n s : Nat) (W W' : World) : Prop where
  size : W.heap.size ≤ W'.heap.size
  same : ∀ b, b < W.heap.size → (b < n ∨ s ≤ b) → W'.heap[b]? = W.heap[b]?
theorem Kp.refl (n s : Nat) (W : World) : Kp n s W W := ⟨Nat.le_refl _, fun _ _ _ => rfl⟩
theorem Kp.trans {n s : Nat} {A B C : World} (h : Kp n s A B) (k : Kp n s B C) : Kp n s A C :=
  ⟨Nat.le_trans h.size k.size, fun b hb hs => (k.same b (Nat.lt_of_lt_of_le hb h.size) hs).trans (h.same b hb hs)⟩
theorem Kp.mono {n s n' s' : Nat} {A B : World} (h : Kp n s A B) (hn : n' ≤ n) (hs : s ≤ s') : Kp n' s' A B :=
  ⟨h.size, fun b hb k => h.same b hb (by omega)⟩
theorem Kp.of_below {n s : Nat} {A B : World} (h : Below A.heap.size A B) : Kp n s A B := ⟨h.size, fun b hb _ => h.block b hb⟩
theorem Kp.putObj {n s l : Nat} (W : World) (o : Obj) (hn : n ≤ l) (hl : l < s) : Kp n s W (W.putObj l o) :=
  ⟨by simp, fun b _ h => World.putObj_heap_other (by omega)⟩
theorem Kp.setCell {n s : Nat} {W : World} {a : Addr} (v : Value) (hn : n ≤ a.block) (hs : a.block < s) : Kp n s W (W.setCell a v) :=
  ⟨by simp [World.setCell], fun b _ h => Below.heap_setCell _ _ _ _ (by omega)⟩
theorem below_put {B l : Nat} (W : World) (o : Obj) (h : B ≤ l) : Below B W (W.putObj l o) :=
  ⟨rfl, rfl, rfl, by simp, fun k hk => World.putObj_heap_other (by omega)⟩
/-- An iterator: it tells N items; `X s k W v`: in the world W the k-th one is v, what it made itself lying from s on. -/
def Itr (P : Program) (gf : Nat) (fb lb : Array Value) (n N : Nat) (X : Nat → Nat → World → Value → Prop) (w : World) : Prop :=
  ∀ (l : Nat) (J Jx : Nat → World → Prop) (W : World), Below w.heap.size w W →
    (∀ k A B, J k A → W.heap.size ≤ A.heap.size → Below W.heap.size A B → J k B) →
    (∀ k A B, Jx k A → W.heap.size ≤ A.heap.size → Below W.heap.size A B → Jx k B) →
    (∀ k W1 v, k < N → J k W1 → W.heap.size ≤ W1.heap.size → X W.heap.size k W1 v → YieldAt Fence.wide 0 P l #[v] W1 fun e W' =>
      (e = .returned (.bool true) ∧ J (k + 1) W' ∧ Kp n W.heap.size W1 W') ∨ (e = .returned (.bool false) ∧ Jx k W' ∧ Kp n W.heap.size W1 W')) →
    J 0 W →
    CallsIn Fence.wide 0 P gf (fb ++ #[.func (.yield l) #[] #[]] ++ lb) W fun e W' => (∃ v, e = .returned v) ∧ (J N W' ∨ ∃ k, k < N ∧ Jx k W')
/-- How a round may be left. -/
def rngPost (n s k : Nat) (I : Nat → World → Prop) (Ix : Code → Nat → World → Prop) (W : World) : Exit → Act → World → Prop
  | .normal, _, W' => Kp n s W W' ∧ I (k + 1) W'
  | .ret, _, W' => Kp n s W W' ∧ Ix .ret k W'
  | .exit id, _, W' => Kp n s W W' ∧ Ix (.exit id) k W'
  | .goto t, _, W' => Kp n s W W' ∧ Ix (.goto t) k W'
  | .panic _, _, _ => False
  | .outgrown, _, _ => False
theorem wp_range {P : Program} {g : Operand} {p : Tmp} {assign body : Code} {Q : Exit → Act → World → Prop} {a : Act} {w : World} {gf : Nat} {fb lb : Array Value}
    (hg : a.eval g = .func (.func gf) fb lb) (eg : ∀ args w, (callFunc gf args).run P w = .ok (.enter gf args) w)
    {n N : Nat} {X : Nat → Nat → World → Value → Prop} {w0 : World} (hseq : Itr P gf fb lb n N X w0) (hb0 : Below w0.heap.size w0 w) (hn : n ≤ w.heap.size)
    (hX : ∀ k A B v, X (w.heap.size + 2) k A v → Kp n (w.heap.size + 2) A B → X (w.heap.size + 2) k B v)
    (I : Nat → World → Prop) (Ix : Code → Nat → World → Prop)
    (hI : ∀ k A B, I k A → w.heap.size ≤ A.heap.size → Below w.heap.size A B → I k B)
    (hIx : ∀ c k A B, Ix c k A → w.heap.size ≤ A.heap.size → Below w.heap.size A B → Ix c k B)
    (h0 : I 0 w) (a₁ : Value → Act)
    (hassign : ∀ (l : Nat) (v : Value) (W : World) (K : Act → World → Prop), K (a₁ v) W →
      assign.wpIn (Fence.wide.inRound l) 0 P (Exit.then K (fun _ _ _ => False)) { tmps := (#[p].zip #[v]).foldl (fun t (p, v) => t.setIfInBounds p v) a.tmps, defers := [] } W)
    (hbody : ∀ (l k : Nat) (v : Value) (W : World), k < N → I k W → w.heap.size + 2 ≤ W.heap.size → X (w.heap.size + 2) k W v →
      body.wpIn (Fence.wide.inRound l) 0 P (rngPost n w.heap.size k I Ix W) (a₁ v) W)
    (hdone : ∀ (D : Nat) (W : World), w.heap.size ≤ D → I N W → W.heap[D]? = some (.deferred (some [])) → Q .normal { a with defers := { target := .collected D, args := #[] } :: a.defers } W)
    (hstop : ∀ (D : Nat) (c : Code) (k : Nat) (W : World), w.heap.size ≤ D → k < N → Ix c k W → W.heap[D]? = some (.deferred (some [])) →
      c.wpIn Fence.wide 0 P Q { a with defers := { target := .collected D, args := #[] } :: a.defers } W) :
    (Code.rangeFunc g #[p] assign body).wpIn Fence.wide 0 P Q a w := by
  refine wpIn_rangeFunc fun fn _ => ?_
  let R : LoopState → Option Code → Obj := fun st pe => .loop { state := st, pending := pe, fn := fn, tmps := a.tmps, params := #[p], assign := assign, body := body, defers := w.heap.size }
  let s := w.heap.size
  let W1 := (w.alloc (.deferred (some []))).alloc (R .ready none)
  have z1 : W1.heap.size = s + 2 := by simp [W1, s]
  have hL1 : W1.heap[s + 1]? = some (R .ready none) := by
    have := World.alloc_heap_new (w.alloc (.deferred (some []))) (R .ready none)
    rwa [World.size_alloc] at this
  have hD1 : W1.heap[s]? = some (.deferred (some [])) := (Below.heap_alloc _ _ _ (by simp [s])).trans (World.alloc_heap_new w _)
  have b1 : Below s w W1 := ((Below.refl s w).alloc (Nat.le_refl _) _).alloc (by simp [s]) _
  refine ⟨s + 1, [{ target := .collected s, args := #[] }], W1, { target := .fn (.func gf) lb, args := fb ++ #[.func (.yield (s + 1)) #[] #[]] }, W1, gf, fb ++ #[.func (.yield (s + 1)) #[] #[]] ++ lb, W1,
    run_enterLoop_outer _ _ _ _ _, ?_, fun _ _ => trivial, ?_, (fun h => by cases h), ?_⟩
  · simp only [resolve, hg]
    simp [go_sem]
  · simp [invoke, go_sem, eg]
  · refine (hseq (s + 1) (fun k W => I k W ∧ W.heap[s + 1]? = some (R .ready none) ∧ W.heap[s]? = some (.deferred (some [])))
      (fun k W => ∃ c, Ix c k W ∧ W.heap[s + 1]? = some (R .done (some c)) ∧ W.heap[s]? = some (.deferred (some []))) W1 (hb0.trans (b1.mono hb0.size)) ?_ ?_ ?_ ⟨hI _ _ _ h0 (Nat.le_refl _) b1, hL1, hD1⟩).mono ?_
    · rintro k A B ⟨h1, h2, h3⟩ hs hb
      rw [z1] at hs hb
      exact ⟨hI _ _ _ h1 (by omega) (hb.mono (by omega)), (hb.block _ (by omega)).trans h2, (hb.block _ (by omega)).trans h3⟩
    · rintro k A B ⟨c, h1, h2, h3⟩ hs hb
      rw [z1] at hs hb
      exact ⟨c, hIx _ _ _ _ h1 (by omega) (hb.mono (by omega)), (hb.block _ (by omega)).trans h2, (hb.block _ (by omega)).trans h3⟩
    · rw [z1]
      rintro k W v hk ⟨hi, hl, hd⟩ hs hx
      refine ⟨fn, _, assign, body, run_yield hl rfl, roundIn_of_wpIn trivial (hassign _ v W _ ⟨_, run_beginRound hl rfl, ?_⟩)⟩
      let Wb := W.putObj (s + 1) (R .busy none)
      have kb : Kp n (s + 2) W Wb := Kp.putObj _ _ (by omega) (by omega)
      have hlb : Wb.heap[s + 1]? = some (R .busy none) := World.putObj_heap_same (by omega)
      have hdb : Wb.heap[s]? = some (.deferred (some [])) := (World.putObj_heap_other (by omega)).trans hd
      have zb : Wb.heap.size = W.heap.size := by simp [Wb]
      refine wpIn_mono (hbody _ k v Wb hk (hI _ _ _ hi (by omega) (below_put _ _ (by omega))) (by rw [zb]; exact hs) (hX _ _ _ _ hx kb)) ?_
      have fin : ∀ (st : LoopState) (j : Option Code) (W3 : World), Kp n s Wb W3 → st = (if j.isNone then .ready else .done) →
          (Instr.endRound (s + 1) j).run P W3 = .ok (.bool j.isNone) (W3.putObj (s + 1) (R st j)) ∧ (W3.putObj (s + 1) (R st j)).heap[s + 1]? = some (R st j) ∧ (W3.putObj (s + 1) (R st j)).heap[s]? = some (.deferred (some [])) ∧
          Kp n (s + 2) W (W3.putObj (s + 1) (R st j)) ∧ Below s W3 (W3.putObj (s + 1) (R st j)) ∧ s ≤ W3.heap.size := by
        intro st j W3 h3 hst
        have hl3 : W3.heap[s + 1]? = some (R .busy none) := (h3.same _ (by omega) (by omega)).trans hlb
        have hd3 : W3.heap[s]? = some (.deferred (some [])) := (h3.same _ (by omega) (by omega)).trans hdb
        have z3 := h3.size
        subst hst
        exact ⟨run_endRound j hl3, World.putObj_heap_same (by omega), (World.putObj_heap_other (by omega)).trans hd3, (kb.trans (h3.mono (Nat.le_refl _) (by omega))).trans (Kp.putObj _ _ (by omega) (by omega)), below_put _ _ (by omega), by omega⟩
      rintro e a3 W3 hp
      cases e with
      | normal =>
        obtain ⟨h3, hi3⟩ := hp
        obtain ⟨f1, f2, f3, f4, f5, f6⟩ := fin .ready none W3 h3 rfl
        exact ⟨_, _, f1, .inl ⟨rfl, ⟨hI _ _ _ hi3 f6 f5, f2, f3⟩, f4⟩⟩
      | ret =>
        obtain ⟨h3, hi3⟩ := hp
        obtain ⟨f1, f2, f3, f4, f5, f6⟩ := fin .done (some .ret) W3 h3 rfl
        exact ⟨_, _, f1, .inr ⟨rfl, ⟨_, hIx _ _ _ _ hi3 f6 f5, f2, f3⟩, f4⟩⟩
      | exit id =>
        obtain ⟨h3, hi3⟩ := hp
        obtain ⟨f1, f2, f3, f4, f5, f6⟩ := fin .done (some (.exit id)) W3 h3 rfl
        exact ⟨_, _, f1, .inr ⟨rfl, ⟨_, hIx _ _ _ _ hi3 f6 f5, f2, f3⟩, f4⟩⟩
      | goto t =>
        obtain ⟨h3, hi3⟩ := hp
        obtain ⟨f1, f2, f3, f4, f5, f6⟩ := fin .done (some (.goto t)) W3 h3 rfl
        exact ⟨_, _, f1, .inr ⟨rfl, ⟨_, hIx _ _ _ _ hi3 f6 f5, f2, f3⟩, f4⟩⟩
      | panic c => exact hp.elim
      | outgrown => exact hp.elim
    · rintro e W ⟨⟨v, rfl⟩, h⟩
      rcases h with ⟨hi, hl, hd⟩ | ⟨k, hk, c, hi, hl, hd⟩
      · refine ⟨none, _, run_endLoop hl (by simp), ?_⟩
        have hs := (Array.getElem?_eq_some_iff.1 hl).1
        exact hdone s _ (Nat.le_refl _) (hI _ _ _ hi (by omega) (below_put _ _ (by omega))) ((World.putObj_heap_other (by omega)).trans hd)
      · refine ⟨some c, _, run_endLoop hl (by simp), ?_⟩
        have hs := (Array.getElem?_eq_some_iff.1 hl).1
        exact hstop s c k _ (Nat.le_refl _) hk (hIx _ _ _ _ hi (by omega) (below_put _ _ (by omega))) ((World.putObj_heap_other (by omega)).trans hd)
end Go.Proofs.YtmlgjijjkikkhaaGreatDoor
