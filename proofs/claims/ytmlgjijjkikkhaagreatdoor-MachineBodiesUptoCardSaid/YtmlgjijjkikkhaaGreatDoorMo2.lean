/-
  Values, ends, lists of values as arguments: read as plain data.
-/
import Derived.Test.YtmlgjijjkikkhaaGreatDoorMo
import Derived.Test.YtmlgjijjkikkhaaGreatDoorMa1
namespace Go.Proofs.YtmlgjijjkikkhaaGreatDoor
open Go.ChangeShapes Go.WideShapes Go.ChangeAt Go.RowKit Go.Joins
section
variable {H : Type} {enc : TypeId × Value → H} {w : World} {base : Nat} {spare : Nat → Bool} {held : Bool}
set_option maxRecDepth 100000 in
theorem trodX {fuel : Nat} {cs : List Value} {x : DataW H × List MemPlace} (h : DataW.trod enc Tryz.prog w base spare held fuel 57 cs = some x) : ∃ v : Val, cs = (celX v).toList ∧ v.vs.size ≤ maxLen := by
  obtain ⟨xs, n, rfl, rfl, hl, hlen, hf⟩ := DataW.trod_struct Tryz.underlying57 h
  have ci : Tryz.prog.cellsOf 3 = 1 := by kernel_rfl
  have cb : Tryz.prog.cellsOf 4 = 1 := by kernel_rfl
  have cf : Tryz.prog.cellsOf 41 = 1 := by kernel_rfl
  have cst : Tryz.prog.cellsOf 9 = 1 := by kernel_rfl
  rw [show Tryz.prog.cellsOf 57 = 5 by kernel_rfl] at hl
  match cs, hl with
  | [c0, c1, c2, c3, c4], _ =>
    match xs, hlen with
    | [y0, y1, y2, y3, y4], _ =>
      have g0 : DataW.trod enc Tryz.prog w base spare held n 3 [c0] = some y0 := by
        have q := hf 0 _ rfl
        have e : ([c0, c1, c2, c3, c4].drop 0).take (Tryz.prog.cellsOf 3) = [c0] := by rw [ci]; rfl
        rw [← e]
        exact q
      have g1 : DataW.trod enc Tryz.prog w base spare held n 4 [c1] = some y1 := by
        have q := hf 1 _ rfl
        have e : ([c0, c1, c2, c3, c4].drop 1).take (Tryz.prog.cellsOf 4) = [c1] := by rw [cb]; rfl
        rw [← e]
        exact q
      have g2 : DataW.trod enc Tryz.prog w base spare held n 41 [c2] = some y2 := by
        have q := hf 2 _ rfl
        have e : ([c0, c1, c2, c3, c4].drop 2).take (Tryz.prog.cellsOf 41) = [c2] := by rw [cf]; rfl
        rw [← e]
        exact q
      have g3 : DataW.trod enc Tryz.prog w base spare held n 9 [c3] = some y3 := by
        have q := hf 3 _ rfl
        have e : ([c0, c1, c2, c3, c4].drop 3).take (Tryz.prog.cellsOf 9) = [c3] := by rw [cst]; rfl
        rw [← e]
        exact q
      have g4 : DataW.trod enc Tryz.prog w base spare held n 3 [c4] = some y4 := by
        have q := hf 4 _ rfl
        have e : ([c0, c1, c2, c3, c4].drop 4).take (Tryz.prog.cellsOf 3) = [c4] := by rw [ci]; rfl
        rw [← e]
        exact q
      obtain ⟨k, e0, rfl, w0⟩ := DataW.trod_int Tryz.underlying3 g0
      obtain ⟨b, e1, rfl⟩ := DataW.trod_bool Tryz.underlying4 g1
      obtain ⟨m, e2, rfl, w2⟩ := trod_f64 Tryz.underlying41 g2
      obtain ⟨s, e3, rfl, w3⟩ := DataW.trod_string Tryz.underlying9 g3
      obtain ⟨o, e4, rfl, w4⟩ := DataW.trod_int Tryz.underlying3 g4
      simp only [List.cons.injEq, and_true] at e0 e1 e2 e3 e4
      subst e0 e1 e2 e3 e4
      exact ⟨⟨k, b, m, s, o⟩, rfl, w3⟩
set_option maxRecDepth 100000 in
theorem trodD {fuel : Nat} {cs : List Value} {x : DataW H × List MemPlace} (h : DataW.trod enc Tryz.prog w base spare held fuel 63 cs = some x) : ∃ (k : Int) (v : Val) (s : ByteArray), cs = (celD k v s).toList ∧ s.size ≤ maxLen := by
  obtain ⟨xs, n, rfl, rfl, hl, hlen, hf⟩ := DataW.trod_struct Tryz.underlying63 h
  have ci : Tryz.prog.cellsOf 3 = 1 := by kernel_rfl
  have cv : Tryz.prog.cellsOf 57 = 5 := by kernel_rfl
  have cst : Tryz.prog.cellsOf 9 = 1 := by kernel_rfl
  rw [show Tryz.prog.cellsOf 63 = 7 by kernel_rfl] at hl
  match cs, hl with
  | [c0, c1, c2, c3, c4, c5, c6], _ =>
    match xs, hlen with
    | [y0, y1, y2], _ =>
      have g0 : DataW.trod enc Tryz.prog w base spare held n 3 [c0] = some y0 := by
        have q := hf 0 _ rfl
        have e : ([c0, c1, c2, c3, c4, c5, c6].drop 0).take (Tryz.prog.cellsOf 3) = [c0] := by rw [ci]; rfl
        rw [← e]
        exact q
      have g1 : DataW.trod enc Tryz.prog w base spare held n 57 [c1, c2, c3, c4, c5] = some y1 := by
        have q := hf 1 _ rfl
        have e : ([c0, c1, c2, c3, c4, c5, c6].drop 1).take (Tryz.prog.cellsOf 57) = [c1, c2, c3, c4, c5] := by rw [cv]; rfl
        rw [← e]
        exact q
      have g2 : DataW.trod enc Tryz.prog w base spare held n 9 [c6] = some y2 := by
        have q := hf 2 _ rfl
        have e : ([c0, c1, c2, c3, c4, c5, c6].drop 6).take (Tryz.prog.cellsOf 9) = [c6] := by rw [cst]; rfl
        rw [← e]
        exact q
      obtain ⟨k, e0, rfl, w0⟩ := DataW.trod_int Tryz.underlying3 g0
      obtain ⟨v, e1, _⟩ := trodX g1
      obtain ⟨s, e2, rfl, w2⟩ := DataW.trod_string Tryz.underlying9 g2
      simp only [List.cons.injEq, and_true] at e0 e1 e2
      subst e0 e2
      obtain ⟨rfl, rfl, rfl, rfl, rfl⟩ := e1
      exact ⟨k, v, s, rfl, w2⟩
set_option maxRecDepth 100000 in
theorem open_valX {r : Reach} {b0 : Nat} {v : Value} {d : DataW H} {p : List MemPlace} (hv : Value.okWide Tryz.prog w r b0 57 v) (h : DataW.Trod enc Tryz.prog w base spare held 57 v d p) : ∃ x : Val, v = .agg (celX x) := by
  obtain ⟨cs, rfl, _⟩ := okWide_struct Tryz.underlying57 hv
  obtain ⟨fuel, hf⟩ := h
  obtain ⟨x, e1, _⟩ := trodX hf
  obtain rfl : cs = celX x := Array.toList_inj.1 e1
  exact ⟨x, rfl⟩
set_option maxRecDepth 100000 in
theorem open_done {r : Reach} {b0 : Nat} {v : Value} {d : DataW H} {p : List MemPlace} (hv : Value.okWide Tryz.prog w r b0 63 v) (h : DataW.Trod enc Tryz.prog w base spare held 63 v d p) : ∃ (k : Int) (x : Val) (s : ByteArray), v = .agg (celD k x s) ∧ s.size ≤ maxLen := by
  obtain ⟨cs, rfl, _⟩ := okWide_struct Tryz.underlying63 hv
  obtain ⟨fuel, hf⟩ := h
  obtain ⟨k, x, s, e1, hs⟩ := trodD hf
  obtain rfl : cs = celD k x s := Array.toList_inj.1 e1
  exact ⟨k, x, s, rfl, hs⟩
end
theorem bulk_len {H : Type} : ∀ l : List (DataW H), l.length ≤ Rows.uptoBulkAll l
  | [] => Nat.zero_le _
  | d :: r => by
    have := bulk_len r
    have h1 : 1 ≤ Rows.uptoBulk d := by
      cases d with
      | lit y => cases y <;> simp [Rows.uptoBulk]
      | _ => simp [Rows.uptoBulk]
    rw [Rows.uptoBulkAll, List.length_cons]
    omega
theorem vals_open {H : Type} {enc : TypeId × Value → H} {W : World} {a : Option Addr} {len cap : Nat} {d : DataW H} {p : List MemPlace}
    (h : DataW.Trod enc Tryz.prog W 0 (fun _ => true) true 59 (.slice a len cap) d p) (hd : Rows.uptoBulk d ≤ 4194304) :
    ∃ l : List Val, l.length = len ∧ ValsAt W.heap.size W l a cap := by
  obtain ⟨fuel, hf⟩ := h
  rcases DataW.trod_slice Tryz.underlying59 hf with ⟨hcs, _⟩ | ⟨x, ln, c, elems, rest, n, _, hcs, hx, hb, hl, hm, hlen, hel, hsp, hns⟩
  · simp [Value.cells] at hcs
    obtain ⟨rfl, rfl, rfl⟩ := hcs
    exact ⟨[], rfl, ⟨Nat.le_refl _, by simp, fun h => absurd rfl h, by simp⟩⟩
  · simp [Value.cells] at hcs
    obtain ⟨rfl, rfl, rfl⟩ := hcs
    have c5 : Tryz.prog.cellsOf 57 = 5 := by kernel_rfl
    rw [c5] at hel
    have hmx : len ≤ 4194304 := by
      have e : d = .slice (elems.map (·.1)) (rest.map (·.1)) := congrArg Prod.fst hx
      have h1 := bulk_len (elems.map (·.1))
      rw [e, Rows.uptoBulk] at hd
      rw [List.length_map] at h1
      omega
    have each : ∀ i, i < len → ∃ v : Val, v.vs.size ≤ maxLen ∧ ∀ j, j < 5 → W.cell? ((x.add (i * 5)).add j) = (celX v).toList[j]? := by
      intro i hi
      have h1 := hel i hi
      rw [List.getElem?_eq_getElem (by omega)] at h1
      obtain ⟨ds, h2, h3⟩ := Option.bind_eq_some_iff.1 h1
      obtain ⟨_, hdl, hcell⟩ := World.cells?_some h2
      obtain ⟨v, rfl, hs⟩ := trodX h3
      exact ⟨v, hs, hcell⟩
    by_cases h0 : len = 0
    · subst h0
      exact ⟨[], rfl, ⟨Nat.zero_le _, by simp, fun h => absurd rfl h, by simp⟩⟩
    · obtain ⟨b, off, spot⟩ := x
      have hspot : spot = none := by
        obtain ⟨v, _, hc⟩ := each 0 (by omega)
        have hc0 : W.cell? (((⟨b, off, spot⟩ : Addr).add (0 * 5)).add 0) = some (.int .i64 v.vk) := hc 0 (by omega)
        have := World.cell?_spot hc0
        simpa [Addr.add] using this
      subst hspot
      have hadd : ∀ i j, ((⟨b, off, none⟩ : Addr).add (i * 5)).add j = ⟨b, off + i * 5 + j, none⟩ := by
        intro i j
        unfold Addr.add
        split <;> split <;> simp_all
      have hbl : b < W.heap.size := by
        obtain ⟨v, _, hc⟩ := each 0 (by omega)
        have hc0 : W.cell? (((⟨b, off, none⟩ : Addr).add (0 * 5)).add 0) = some (.int .i64 v.vk) := hc 0 (by omega)
        rw [hadd] at hc0
        rcases Nat.lt_or_ge b W.heap.size with h' | h'
        · exact h'
        · simp [World.cell?, Array.getElem?_eq_none h'] at hc0
      have hcel : ∀ i, i < len → ∃ v : Val, v.vs.size ≤ maxLen ∧ CelAt W b (off + i * 5) v := by
        intro i hi
        obtain ⟨v, hs, hc⟩ := each i hi
        simp only [hadd] at hc
        exact ⟨v, hs, hc 0 (by omega), hc 1 (by omega), hc 2 (by omega), hc 3 (by omega), hc 4 (by omega)⟩
      have hall : ∀ m, m ≤ len → ∃ l : List Val, l.length = m ∧ (∀ i v, l[i]? = some v → CelAt W b (off + i * 5) v) ∧ ∀ v ∈ l, v.vs.size ≤ maxLen := by
        intro m
        induction m with
        | zero => exact fun _ => ⟨[], rfl, by simp, by simp⟩
        | succ m ih =>
          intro hm
          obtain ⟨l, h1, h2, h3⟩ := ih (by omega)
          obtain ⟨v, hs, hc⟩ := hcel m (by omega)
          refine ⟨l ++ [v], by simp [h1], fun i u hu => ?_, fun u hu => ?_⟩
          · rcases Nat.lt_or_ge i l.length with hi | hi
            · rw [List.getElem?_append_left hi] at hu
              exact h2 i u hu
            · rw [List.getElem?_append_right hi] at hu
              have e : i - l.length = 0 := by
                rcases Nat.eq_zero_or_pos (i - l.length) with h | h
                · exact h
                · rw [List.getElem?_eq_none (by simp; omega)] at hu
                  cases hu
              rw [e] at hu
              obtain rfl : v = u := Option.some.inj hu
              rw [show i = m by omega]
              exact hc
          · rcases List.mem_append.1 hu with hu | hu
            · exact h3 u hu
            · rw [List.mem_singleton.1 hu]
              exact hs
      obtain ⟨l, h1, h2, h3⟩ := hall len (Nat.le_refl _)
      exact ⟨l, h1, ⟨by omega, by omega, fun _ => ⟨b, off, rfl, hbl, h2⟩, h3⟩⟩
end Go.Proofs.YtmlgjijjkikkhaaGreatDoor
