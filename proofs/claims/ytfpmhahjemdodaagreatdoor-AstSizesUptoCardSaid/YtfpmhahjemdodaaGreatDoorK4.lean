/-
  A tree as an argument: it lies in memory as a tree, and is no greater than its bulk.
-/
import Derived.Test.YtfpmhahjemdodaaGreatDoorMqbc
import Derived.Test.YtfpmhahjemdodaaGreatDoorRows
namespace Go.Proofs.YtfpmhahjemdodaaGreatDoor
open Go.ChangeShapes Go.WideShapes Go.ChangeAt Go.RowKit
mutual
/-- How many nodes, and letters of Str. -/
def wt : Tn → Nat
  | .mk d l => d.st.size + 1 + wtL l
def wtL : List Tn → Nat
  | [] => 0
  | x :: l => wt x + wtL l
end
mutual
theorem size_wt : ∀ t : Tn, t.size ≤ wt t
  | .mk d l => by
    rw [Tr.size, wt]
    have := sizes_wt l
    omega
theorem sizes_wt : ∀ l : List Tn, Tr.sizes l ≤ wtL l
  | [] => by rw [Tr.sizes, wtL]; exact Nat.le_refl _
  | x :: l => by
    rw [Tr.sizes, wtL]
    have := size_wt x
    have := sizes_wt l
    omega
end
mutual
theorem fit_every : ∀ t : Tn, Tr.every okN t = true → wt t ≤ 17592186044416 → Tr.every (fun x => decide (x.datum.st.size ≤ 17592186044416) && decide (x.datum.nm < 18446744073709551616)) t = true
  | .mk d l, h, hw => by
    rw [Tr.every_eq, Bool.and_eq_true] at h
    rw [wt] at hw
    have h1 := h.1
    unfold okN at h1
    simp only [Bool.and_eq_true] at h1
    have h3 := h1.2.2.2.1
    simp only [Lit.wf, decide_eq_true_eq] at h3
    rw [Tr.every_eq, Bool.and_eq_true, Bool.and_eq_true, decide_eq_true_iff, decide_eq_true_iff]
    exact ⟨⟨show d.st.size ≤ _ by omega, h3⟩, fit_everyL l h.2 (by omega)⟩
theorem fit_everyL : ∀ l : List Tn, Tr.everyL okN l = true → wtL l ≤ 17592186044416 → Tr.everyL (fun x => decide (x.datum.st.size ≤ 17592186044416) && decide (x.datum.nm < 18446744073709551616)) l = true
  | [], _, _ => by rw [Tr.everyL]
  | x :: l, h, hw => by
    rw [Tr.everyL, Bool.and_eq_true] at h
    rw [wtL] at hw
    rw [Tr.everyL, fit_every x h.1 (by omega), fit_everyL l h.2 (by omega)]
    rfl
end
theorem fit_of {t : Tn} (h : Tr.every okN t = true) (hw : wt t ≤ 17592186044416) : Fit t := fit_every t h hw
section
variable {H : Type} {enc : TypeId × Value → H} {w : World} {base : Nat} {spare : Nat → Bool} {held : Bool}
theorem atL_ofB {p : Nat → Prop} {W : World} {b : Nat} : ∀ (E : List (DataW H)) (o : Nat), (∀ i x, E[i]? = some x → ∃ t cs, W.rangeAt b (o + i * 7) cs ∧ At p W t cs ∧ Tr.every okN t = true ∧ wt t ≤ Rows.uptoBulk x) → ∃ l : List Tn, l.length = E.length ∧ AtL p W b o l ∧ Tr.everyL okN l = true ∧ wtL l ≤ Rows.uptoBulkAll E
  | [], o, _ => ⟨[], rfl, by rw [AtL]; trivial, by rw [Tr.everyL], by simp [wtL]⟩
  | y :: E, o, h => by
    obtain ⟨t, cs, h1, h2, h3, h4⟩ := h 0 y rfl
    obtain ⟨l, e1, e2, e3, e4⟩ := atL_ofB E (o + 7) fun i x hi => by
      have := h (i + 1) x hi
      rw [show o + (i + 1) * 7 = o + 7 + i * 7 by omega] at this
      exact this
    refine ⟨t :: l, by simp [e1], ?_, ?_, ?_⟩
    · rw [AtL]
      exact ⟨⟨cs, by simpa using h1, h2⟩, e2⟩
    · rw [Tr.everyL, h3, e3]
      rfl
    · rw [wtL, Rows.uptoBulkAll]
      omega
set_option maxRecDepth 100000 in
theorem trodB : ∀ (fuel : Nat) {cs : List Value} {x : DataW H × List MemPlace}, DataW.trod enc Tryz.prog w base spare held fuel 25 cs = some x → ∃ t : Tn, At (fun b => b < w.heap.size) w t cs ∧ Tr.every okN t = true ∧ wt t ≤ Rows.uptoBulk x.1 := by
  intro fuel
  induction fuel using Nat.strongRecOn with
  | _ fuel ih =>
  intro cs x h
  obtain ⟨xs, n, rfl, rfl, hl, hlen, hf⟩ := DataW.trod_struct Tryz.underlying25 h
  have zi : Tryz.prog.cellsOf 3 = 1 := by kernel_rfl
  have zb : Tryz.prog.cellsOf 4 = 1 := by kernel_rfl
  have zf : Tryz.prog.cellsOf 22 = 1 := by kernel_rfl
  have zst : Tryz.prog.cellsOf 9 = 1 := by kernel_rfl
  have zs : Tryz.prog.cellsOf 23 = 1 := by kernel_rfl
  have z7 : Tryz.prog.cellsOf 25 = 7 := by kernel_rfl
  rw [z7] at hl
  match cs, hl with
  | [c0, c1, c2, c3, c4, c5, c6], _ =>
    match xs, hlen with
    | [y0, y1, y2, y3, y4, y5, y6], _ =>
      have g0 : DataW.trod enc Tryz.prog w base spare held n 3 [c0] = some y0 := by
        have q := hf 0 _ rfl
        have e : ([c0, c1, c2, c3, c4, c5, c6].drop 0).take (Tryz.prog.cellsOf 3) = [c0] := by rw [zi]; rfl
        rw [← e]
        exact q
      have g1 : DataW.trod enc Tryz.prog w base spare held n 9 [c1] = some y1 := by
        have q := hf 1 _ rfl
        have e : ([c0, c1, c2, c3, c4, c5, c6].drop 1).take (Tryz.prog.cellsOf 9) = [c1] := by rw [zst]; rfl
        rw [← e]
        exact q
      have g2 : DataW.trod enc Tryz.prog w base spare held n 9 [c2] = some y2 := by
        have q := hf 2 _ rfl
        have e : ([c0, c1, c2, c3, c4, c5, c6].drop 2).take (Tryz.prog.cellsOf 9) = [c2] := by rw [zst]; rfl
        rw [← e]
        exact q
      have g3 : DataW.trod enc Tryz.prog w base spare held n 22 [c3] = some y3 := by
        have q := hf 3 _ rfl
        have e : ([c0, c1, c2, c3, c4, c5, c6].drop 3).take (Tryz.prog.cellsOf 22) = [c3] := by rw [zf]; rfl
        rw [← e]
        exact q
      have g4 : DataW.trod enc Tryz.prog w base spare held n 4 [c4] = some y4 := by
        have q := hf 4 _ rfl
        have e : ([c0, c1, c2, c3, c4, c5, c6].drop 4).take (Tryz.prog.cellsOf 4) = [c4] := by rw [zb]; rfl
        rw [← e]
        exact q
      have g5 : DataW.trod enc Tryz.prog w base spare held n 23 [c5] = some y5 := by
        have q := hf 5 _ rfl
        have e : ([c0, c1, c2, c3, c4, c5, c6].drop 5).take (Tryz.prog.cellsOf 23) = [c5] := by rw [zs]; rfl
        rw [← e]
        exact q
      have g6 : DataW.trod enc Tryz.prog w base spare held n 3 [c6] = some y6 := by
        have q := hf 6 _ rfl
        have e : ([c0, c1, c2, c3, c4, c5, c6].drop 6).take (Tryz.prog.cellsOf 3) = [c6] := by rw [zi]; rfl
        rw [← e]
        exact q
      clear hf h
      obtain ⟨k, e0, -, w0⟩ := DataW.trod_int Tryz.underlying3 g0
      obtain ⟨op, e1, -, w1⟩ := DataW.trod_string Tryz.underlying9 g1
      obtain ⟨st, e2, x2, w2⟩ := DataW.trod_string Tryz.underlying9 g2
      obtain ⟨m, e3, -, w3⟩ := trod_float' Tryz.underlying22 g3
      obtain ⟨b, e4, -⟩ := DataW.trod_bool Tryz.underlying4 g4
      obtain ⟨ps, e6, -, w6⟩ := DataW.trod_int Tryz.underlying3 g6
      simp only [List.cons.injEq, and_true] at e0 e1 e2 e3 e4 e6
      subst e0 e1 e2 e3 e4 e6
      have hlen2 : st.data.toList.length = st.size := by rw [Array.length_toList]; rfl
      have hb2 : Rows.uptoBulk y2.1 = st.size + 1 := by rw [x2]; simp [Rows.uptoBulk, hlen2]
      have fin : ∀ (s : Value) (l : List Tn), AtS (fun b => b < w.heap.size) w l s → Tr.everyL okN l = true → wtL l ≤ Rows.uptoBulk y5.1 →
          ∃ t : Tn, At (fun b => b < w.heap.size) w t [.int .i64 k, .string op, .string st, .float .f64 m, .bool b, s, .int .i64 ps] ∧ Tr.every okN t = true ∧ wt t ≤ Rows.uptoBulk (DataW.agg ([y0, y1, y2, y3, y4, y5, y6].map (·.1))) := fun s l h1 h2 h3 => by
        refine ⟨.mk ⟨k, op, st, m, b, ps⟩ l, at_node.2 ⟨s, rfl, h1⟩, ?_, ?_⟩
        · rw [Tr.every_eq, Tr.kids, h2, Bool.and_true]
          unfold okN Tr.datum
          rw [w0, w3, w6, decide_eq_true w1, decide_eq_true w2]
          rfl
        · simp only [wt, List.map, Rows.uptoBulk, Rows.uptoBulkAll]
          omega
      rcases DataW.trod_slice Tryz.underlying23 g5 with ⟨e5, -⟩ | ⟨a, len, cap, elems, rest, n2, rfl, e5, x5, hb, hlc, hcm, hel, hel2, -, -⟩
      · simp only [List.cons.injEq, and_true] at e5
        subst e5
        exact fin _ [] ⟨none, 0, rfl, ⟨by simp, by simp⟩, fun h => absurd rfl h⟩ (by rw [Tr.everyL]) (by simp [wtL])
      · simp only [List.cons.injEq, and_true] at e5
        subst e5
        rw [z7] at hel2
        obtain ⟨ab, ao, asp⟩ := a
        by_cases h0 : len = 0
        · subst h0
          exact fin _ [] ⟨_, _, rfl, ⟨by simp, by simp⟩, fun h => absurd rfl h⟩ (by rw [Tr.everyL]) (by simp [wtL])
        · have hcs : ∀ i, i < len → ∃ ds : List Value, ds.length = 7 ∧ (∀ j, j < 7 → w.cell? (((⟨ab, ao, asp⟩ : Addr).add (i * 7)).add j) = ds[j]?) ∧ ∃ y, DataW.trod enc Tryz.prog w base spare held n2 25 ds = some y := fun i hi => by
            have h1 := hel2 i hi
            rw [List.getElem?_eq_getElem (by omega)] at h1
            obtain ⟨ds, h2, h3⟩ := Option.bind_eq_some_iff.1 h1
            obtain ⟨_, hdl, hcell⟩ := World.cells?_some h2
            exact ⟨ds, hdl, hcell, _, h3⟩
          have hspot : asp = none := by
            obtain ⟨ds, hdl, hcell, _⟩ := hcs 0 (by omega)
            have hc0 := hcell 0 (by omega)
            rw [List.getElem?_eq_getElem (by omega)] at hc0
            have := World.cell?_spot hc0
            simpa [Addr.add] using this
          subst hspot
          have hone : ∀ i x, (elems.map (·.1))[i]? = some x → ∃ t cs, w.rangeAt ab (ao + i * 7) cs ∧ At (fun b => b < w.heap.size) w t cs ∧ Tr.every okN t = true ∧ wt t ≤ Rows.uptoBulk x := fun i x hx => by
            rw [List.getElem?_map] at hx
            obtain ⟨y, hy, rfl⟩ := Option.map_eq_some_iff.1 hx
            have hi : i < len := by rw [← hel]; exact (List.getElem?_eq_some_iff.1 hy).1
            have h1 := hel2 i hi
            rw [hy] at h1
            obtain ⟨ds, h2, h3⟩ := Option.bind_eq_some_iff.1 h1
            obtain ⟨_, hdl, hcell⟩ := World.cells?_some h2
            obtain ⟨t, ht1, ht2, ht3⟩ := ih n2 (by omega) h3
            refine ⟨t, ds, fun j v hv => ?_, ht1, ht2, ht3⟩
            have hj := (List.getElem?_eq_some_iff.1 hv).1
            have h4 := hcell j (by omega)
            rw [hv, Addr.add_mid, Addr.add_mid] at h4
            exact h4
          obtain ⟨l, h1, h2, h3, h4⟩ := atL_ofB (elems.map (·.1)) ao hone
          rw [List.length_map, hel] at h1
          subst h1
          have hbl : ab < w.heap.size := by
            have h0' : 0 < (elems.map (·.1)).length := by rw [List.length_map]; omega
            obtain ⟨t, cs, hr, hA, _⟩ := hone 0 _ (List.getElem?_eq_getElem h0')
            obtain ⟨v, r, rfl⟩ := at_seven hA
            exact cell_lt (hr 0 v rfl)
          exact fin _ l ⟨_, _, rfl, ⟨by omega, hlc⟩, fun _ => ⟨ab, ao, rfl, hbl, h2⟩⟩ h3 (by rw [x5]; simp only [Rows.uptoBulk]; omega)
end
end Go.Proofs.YtfpmhahjemdodaaGreatDoor
