/-
  A tree as an argument: read as plain data, it lies in memory as a tree.
-/
import Derived.Test.YtjbofhaiephedaaGreatJ10
import Derived.ProofKit
import Derived.OpenShut
import Derived.ChangeArms
import Derived.ChangeShapes
import Derived.Deep.Heap
namespace Go.Proofs.YtjbofhaiephedaaGreat
open Go.ChangeShapes Go.WideShapes Go.ChangeAt Go.RowKit
section
variable {H : Type} {enc : TypeId × Value → H} {w : World} {base : Nat} {spare : Nat → Bool} {held : Bool}
/-- What is so of each node that came in. -/
def okN (t : Tn) : Bool := (Lit.int .i64 t.datum.k).wf && (decide (t.datum.op.size ≤ maxLen) && (decide (t.datum.st.size ≤ maxLen) && ((Lit.float .f64 t.datum.nm).wf && (Lit.int .i64 t.datum.ps).wf)))
theorem atL_of {p : Nat → Prop} {W : World} {b : Nat} : ∀ (n o : Nat), (∀ i, i < n → ∃ t cs, W.rangeAt b (o + i * 7) cs ∧ At p W t cs ∧ Tr.every okN t = true) → ∃ l : List Tn, l.length = n ∧ AtL p W b o l ∧ Tr.everyL okN l = true
  | 0, o, _ => ⟨[], rfl, by rw [AtL]; trivial, by rw [Tr.everyL]⟩
  | n + 1, o, h => by
    obtain ⟨t, cs, h1, h2, h3⟩ := h 0 (by omega)
    obtain ⟨l, e1, e2, e3⟩ := atL_of n (o + 7) fun i hi => by
      have := h (i + 1) (by omega)
      rw [show o + (i + 1) * 7 = o + 7 + i * 7 by omega] at this
      exact this
    refine ⟨t :: l, by simp [e1], ?_, by rw [Tr.everyL, h3, e3]; rfl⟩
    rw [AtL]
    exact ⟨⟨cs, by simpa using h1, h2⟩, e2⟩
theorem trod_float' {P : Program} {t : TypeId} {k : FloatKind} {fuel : Nat} {cs : List Value} {x : DataW H × List MemPlace} (ht : P.underlying t = some (.float k)) (h : DataW.trod enc P w base spare held fuel t cs = some x) :
    ∃ b, cs = [.float k b] ∧ x = (.lit (.float k b), []) ∧ (Lit.float k b).wf = true := by
  cases fuel with
  | zero => simp [DataW.trod] at h
  | succ n =>
    unfold DataW.trod at h
    rw [ht] at h
    split at h <;> simp_all
set_option maxRecDepth 100000 in
theorem trodN : ∀ (fuel : Nat) {cs : List Value} {x : DataW H × List MemPlace}, DataW.trod enc Tryz.prog w base spare held fuel 25 cs = some x → ∃ t : Tn, At (fun b => b < w.heap.size) w t cs ∧ Tr.every okN t = true := by
  intro fuel
  induction fuel using Nat.strongRecOn with
  | _ fuel ih =>
  intro cs x h
  obtain ⟨xs, n, rfl, rfl, hl, hlen, hf⟩ := DataW.trod_struct Tryz.underlying25 h
  have zi : Tryz.prog.cellsOf 3 = 1 := by kernel_rfl
  have zb : Tryz.prog.cellsOf 4 = 1 := by kernel_rfl
  have zf : Tryz.prog.cellsOf 22 = 1 := by kernel_rfl
  have zst : Tryz.prog.cellsOf 9 = 1 := by kernel_rfl
  have zs : Tryz.prog.cellsOf 23 = 1 := by kernel_rfl
  have z7 : Tryz.prog.cellsOf 25 = 7 := by kernel_rfl
  rw [z7] at hl
  match cs, hl with
  | [c0, c1, c2, c3, c4, c5, c6], _ =>
    match xs, hlen with
    | [y0, y1, y2, y3, y4, y5, y6], _ =>
      have g0 : DataW.trod enc Tryz.prog w base spare held n 3 [c0] = some y0 := by
        have q := hf 0 _ rfl
        have e : ([c0, c1, c2, c3, c4, c5, c6].drop 0).take (Tryz.prog.cellsOf 3) = [c0] := by rw [zi]; rfl
        rw [← e]
        exact q
      have g1 : DataW.trod enc Tryz.prog w base spare held n 9 [c1] = some y1 := by
        have q := hf 1 _ rfl
        have e : ([c0, c1, c2, c3, c4, c5, c6].drop 1).take (Tryz.prog.cellsOf 9) = [c1] := by rw [zst]; rfl
        rw [← e]
        exact q
      have g2 : DataW.trod enc Tryz.prog w base spare held n 9 [c2] = some y2 := by
        have q := hf 2 _ rfl
        have e : ([c0, c1, c2, c3, c4, c5, c6].drop 2).take (Tryz.prog.cellsOf 9) = [c2] := by rw [zst]; rfl
        rw [← e]
        exact q
      have g3 : DataW.trod enc Tryz.prog w base spare held n 22 [c3] = some y3 := by
        have q := hf 3 _ rfl
        have e : ([c0, c1, c2, c3, c4, c5, c6].drop 3).take (Tryz.prog.cellsOf 22) = [c3] := by rw [zf]; rfl
        rw [← e]
        exact q
      have g4 : DataW.trod enc Tryz.prog w base spare held n 4 [c4] = some y4 := by
        have q := hf 4 _ rfl
        have e : ([c0, c1, c2, c3, c4, c5, c6].drop 4).take (Tryz.prog.cellsOf 4) = [c4] := by rw [zb]; rfl
        rw [← e]
        exact q
      have g5 : DataW.trod enc Tryz.prog w base spare held n 23 [c5] = some y5 := by
        have q := hf 5 _ rfl
        have e : ([c0, c1, c2, c3, c4, c5, c6].drop 5).take (Tryz.prog.cellsOf 23) = [c5] := by rw [zs]; rfl
        rw [← e]
        exact q
      have g6 : DataW.trod enc Tryz.prog w base spare held n 3 [c6] = some y6 := by
        have q := hf 6 _ rfl
        have e : ([c0, c1, c2, c3, c4, c5, c6].drop 6).take (Tryz.prog.cellsOf 3) = [c6] := by rw [zi]; rfl
        rw [← e]
        exact q
      clear hf h
      obtain ⟨k, e0, -, w0⟩ := DataW.trod_int Tryz.underlying3 g0
      obtain ⟨op, e1, -, w1⟩ := DataW.trod_string Tryz.underlying9 g1
      obtain ⟨st, e2, -, w2⟩ := DataW.trod_string Tryz.underlying9 g2
      obtain ⟨m, e3, -, w3⟩ := trod_float' Tryz.underlying22 g3
      obtain ⟨b, e4, -⟩ := DataW.trod_bool Tryz.underlying4 g4
      obtain ⟨ps, e6, -, w6⟩ := DataW.trod_int Tryz.underlying3 g6
      simp only [List.cons.injEq, and_true] at e0 e1 e2 e3 e4 e6
      subst e0 e1 e2 e3 e4 e6
      have fin : ∀ (s : Value) (l : List Tn), AtS (fun b => b < w.heap.size) w l s → Tr.everyL okN l = true →
          ∃ t : Tn, At (fun b => b < w.heap.size) w t [.int .i64 k, .string op, .string st, .float .f64 m, .bool b, s, .int .i64 ps] ∧ Tr.every okN t = true := fun s l h1 h2 => by
        refine ⟨.mk ⟨k, op, st, m, b, ps⟩ l, at_node.2 ⟨s, rfl, h1⟩, ?_⟩
        rw [Tr.every_eq, Tr.kids, h2, Bool.and_true]
        unfold okN Tr.datum
        rw [w0, w3, w6, decide_eq_true w1, decide_eq_true w2]
        rfl
      rcases DataW.trod_slice Tryz.underlying23 g5 with ⟨e5, -⟩ | ⟨a, len, cap, elems, rest, n2, rfl, e5, -, hb, hlc, hcm, hel, hel2, -, -⟩
      · simp only [List.cons.injEq, and_true] at e5
        subst e5
        exact fin _ [] ⟨none, 0, rfl, ⟨by simp, by simp⟩, fun h => absurd rfl h⟩ (by rw [Tr.everyL])
      · simp only [List.cons.injEq, and_true] at e5
        subst e5
        rw [z7] at hel2
        obtain ⟨ab, ao, asp⟩ := a
        by_cases h0 : len = 0
        · subst h0
          exact fin _ [] ⟨_, _, rfl, ⟨by simp, by simp⟩, fun h => absurd rfl h⟩ (by rw [Tr.everyL])
        · have hcs : ∀ i, i < len → ∃ ds : List Value, ds.length = 7 ∧ (∀ j, j < 7 → w.cell? (((⟨ab, ao, asp⟩ : Addr).add (i * 7)).add j) = ds[j]?) ∧ ∃ y, DataW.trod enc Tryz.prog w base spare held n2 25 ds = some y := fun i hi => by
            have h1 := hel2 i hi
            rw [List.getElem?_eq_getElem (by omega)] at h1
            obtain ⟨ds, h2, h3⟩ := Option.bind_eq_some_iff.1 h1
            obtain ⟨_, hdl, hcell⟩ := World.cells?_some h2
            exact ⟨ds, hdl, hcell, _, h3⟩
          have hspot : asp = none := by
            obtain ⟨ds, hdl, hcell, _⟩ := hcs 0 (by omega)
            have hc0 := hcell 0 (by omega)
            rw [List.getElem?_eq_getElem (by omega)] at hc0
            have := World.cell?_spot hc0
            simpa [Addr.add] using this
          subst hspot
          have hone : ∀ i, i < len → ∃ t cs, w.rangeAt ab (ao + i * 7) cs ∧ At (fun b => b < w.heap.size) w t cs ∧ Tr.every okN t = true := fun i hi => by
            obtain ⟨ds, hdl, hcell, y, h3⟩ := hcs i hi
            obtain ⟨t, ht1, ht2⟩ := ih n2 (by omega) h3
            refine ⟨t, ds, fun j v hv => ?_, ht1, ht2⟩
            have hj := (List.getElem?_eq_some_iff.1 hv).1
            have h4 := hcell j (by omega)
            rw [hv, Addr.add_mid, Addr.add_mid] at h4
            exact h4
          obtain ⟨l, h1, h2, h3⟩ := atL_of len ao hone
          subst h1
          have hbl : ab < w.heap.size := by
            obtain ⟨t, cs, hr, hA, _⟩ := hone 0 (by omega)
            obtain ⟨v, r, rfl⟩ := at_seven hA
            exact cell_lt (hr 0 v rfl)
          exact fin _ l ⟨_, _, rfl, ⟨by omega, hlc⟩, fun _ => ⟨ab, ao, rfl, hbl, h2⟩⟩ h3
end
end Go.Proofs.YtjbofhaiephedaaGreat
