/-
  A descriptor as an argument: read as plain data, and read again.
-/
import Derived.Test.YtlkgijinckhkkaaOa
import Derived.Test.YtlkgijinckhkkaaF14
namespace Go.Proofs.Ytlkgijinckhkkaa
open Go.ChangeShapes Go.WideShapes Go.ChangeAt Go.RowKit Go.Joins
section
variable {H : Type} {enc : TypeId × Value → H} {w : World} {base : Nat} {spare : Nat → Bool} {held : Bool}
def prpD (p : Prp) : DataW H := .agg [.lit (.int .i64 p.ph), valD p.pv, valD p.pg, valD p.pt, .lit (.bool p.pw), .lit (.bool p.pe), .lit (.bool p.pc)]
structure wfP (p : Prp) : Prop where
  h : (Lit.int .i64 p.ph).wf = true
  v : wfV p.pv
  g : wfV p.pg
  t : wfV p.pt
theorem wfP.num {p : Prp} (h : wfP p) : NumP p := ⟨h.v.num, h.g.num, h.t.num⟩
theorem wfP.sz {p : Prp} (h : wfP p) : SzP p := by
  have k := h.h
  simp only [Lit.wf, Bool.and_eq_true, decide_eq_true_eq] at k
  have lo : IntKind.i64.min = -9223372036854775808 := rfl
  have hi : IntKind.i64.max = 9223372036854775807 := rfl
  rw [lo, hi] at k
  exact ⟨k.1, by omega, h.v.s, h.g.s, h.t.s⟩
theorem cells_prp : Try.prog.cellsOf 3 = 1 ∧ Try.prog.cellsOf 4 = 1 ∧ Try.prog.cellsOf 24 = 5 ∧ Try.prog.cellsOf 26 = 19 := ⟨by kernel_rfl, by kernel_rfl, by kernel_rfl, by kernel_rfl⟩
set_option maxRecDepth 100000 in
theorem trodP {fuel : Nat} {cs : List Value} {x : DataW H × List MemPlace} (h : DataW.trod enc Try.prog w base spare held fuel 26 cs = some x) : ∃ p, cs = (celP p).toList ∧ x = (prpD p, []) ∧ wfP p := by
  obtain ⟨xs, n, rfl, rfl, hl, hlen, hf⟩ := DataW.trod_struct Try.underlying26 h
  obtain ⟨ci, cb, cv, cp⟩ := cells_prp
  rw [cp] at hl
  match cs, hl with
  | [c0, c1, c2, c3, c4, c5, c6, c7, c8, c9, c10, c11, c12, c13, c14, c15, c16, c17, c18], _ =>
    match xs, hlen with
    | [y0, y1, y2, y3, y4, y5, y6], _ =>
      have g0 : DataW.trod enc Try.prog w base spare held n 3 [c0] = some y0 := by
        have q := hf 0 _ rfl
        have e : ([c0, c1, c2, c3, c4, c5, c6, c7, c8, c9, c10, c11, c12, c13, c14, c15, c16, c17, c18].drop 0).take (Try.prog.cellsOf 3) = [c0] := by rw [ci]; rfl
        rw [← e]
        exact q
      have g1 : DataW.trod enc Try.prog w base spare held n 24 [c1, c2, c3, c4, c5] = some y1 := by
        have q := hf 1 _ rfl
        have e : ([c0, c1, c2, c3, c4, c5, c6, c7, c8, c9, c10, c11, c12, c13, c14, c15, c16, c17, c18].drop 1).take (Try.prog.cellsOf 24) = [c1, c2, c3, c4, c5] := by rw [cv]; rfl
        rw [← e]
        exact q
      have g2 : DataW.trod enc Try.prog w base spare held n 24 [c6, c7, c8, c9, c10] = some y2 := by
        have q := hf 2 _ rfl
        have e : ([c0, c1, c2, c3, c4, c5, c6, c7, c8, c9, c10, c11, c12, c13, c14, c15, c16, c17, c18].drop 6).take (Try.prog.cellsOf 24) = [c6, c7, c8, c9, c10] := by rw [cv]; rfl
        rw [← e]
        exact q
      have g3 : DataW.trod enc Try.prog w base spare held n 24 [c11, c12, c13, c14, c15] = some y3 := by
        have q := hf 3 _ rfl
        have e : ([c0, c1, c2, c3, c4, c5, c6, c7, c8, c9, c10, c11, c12, c13, c14, c15, c16, c17, c18].drop 11).take (Try.prog.cellsOf 24) = [c11, c12, c13, c14, c15] := by rw [cv]; rfl
        rw [← e]
        exact q
      have g4 : DataW.trod enc Try.prog w base spare held n 4 [c16] = some y4 := by
        have q := hf 4 _ rfl
        have e : ([c0, c1, c2, c3, c4, c5, c6, c7, c8, c9, c10, c11, c12, c13, c14, c15, c16, c17, c18].drop 16).take (Try.prog.cellsOf 4) = [c16] := by rw [cb]; rfl
        rw [← e]
        exact q
      have g5 : DataW.trod enc Try.prog w base spare held n 4 [c17] = some y5 := by
        have q := hf 5 _ rfl
        have e : ([c0, c1, c2, c3, c4, c5, c6, c7, c8, c9, c10, c11, c12, c13, c14, c15, c16, c17, c18].drop 17).take (Try.prog.cellsOf 4) = [c17] := by rw [cb]; rfl
        rw [← e]
        exact q
      have g6 : DataW.trod enc Try.prog w base spare held n 4 [c18] = some y6 := by
        have q := hf 6 _ rfl
        have e : ([c0, c1, c2, c3, c4, c5, c6, c7, c8, c9, c10, c11, c12, c13, c14, c15, c16, c17, c18].drop 18).take (Try.prog.cellsOf 4) = [c18] := by rw [cb]; rfl
        rw [← e]
        exact q
      obtain ⟨k, e0, rfl, w0⟩ := DataW.trod_int Try.underlying3 g0
      obtain ⟨v, e1, rfl, w1⟩ := trodV g1
      obtain ⟨g, e2, rfl, w2⟩ := trodV g2
      obtain ⟨t, e3, rfl, w3⟩ := trodV g3
      obtain ⟨a, e4, rfl⟩ := DataW.trod_bool Try.underlying4 g4
      obtain ⟨b, e5, rfl⟩ := DataW.trod_bool Try.underlying4 g5
      obtain ⟨c, e6, rfl⟩ := DataW.trod_bool Try.underlying4 g6
      simp only [celW, List.cons.injEq, and_true] at e0 e1 e2 e3 e4 e5 e6
      obtain ⟨x1, x2, x3, x4, x5⟩ := e1
      obtain ⟨y1, y2, y3, y4, y5⟩ := e2
      obtain ⟨z1, z2, z3, z4, z5⟩ := e3
      subst e0 x1 x2 x3 x4 x5 y1 y2 y3 y4 y5 z1 z2 z3 z4 z5 e4 e5 e6
      exact ⟨⟨k, v, g, t, a, b, c⟩, rfl, rfl, ⟨w0, w1, w2, w3⟩⟩
set_option maxRecDepth 100000 in
theorem trodP_mk {p : Prp} (hw : wfP p) : DataW.trod enc Try.prog w base spare held 3 26 (celP p).toList = some (prpD p, []) := by
  obtain ⟨ci, cb, cv, cp⟩ := cells_prp
  have v1 := trodV_mk (enc := enc) (w := w) (base := base) (spare := spare) (held := held) hw.v
  have v2 := trodV_mk (enc := enc) (w := w) (base := base) (spare := spare) (held := held) hw.g
  have v3 := trodV_mk (enc := enc) (w := w) (base := base) (spare := spare) (held := held) hw.t
  simp only [celW] at v1 v2 v3
  have i0 : DataW.trod enc Try.prog w base spare held 2 3 [.int .i64 p.ph] = some (.lit (.int .i64 p.ph), []) := by simp [DataW.trod, Try.underlying3, hw.h]
  have b4 : ∀ b, DataW.trod enc Try.prog w base spare held 2 4 [.bool b] = some (.lit (.bool b), []) := fun b => by simp [DataW.trod, Try.underlying4]
  have := trod_struct_mk (enc := enc) (w := w) (base := base) (spare := spare) (held := held) (n := 2) (cs := (celP p).toList) (xs := [(.lit (.int .i64 p.ph), []), (valD p.pv, []), (valD p.pg, []), (valD p.pt, []), (.lit (.bool p.pw), []), (.lit (.bool p.pe), []), (.lit (.bool p.pc), [])]) Try.underlying26 (by rw [cp]; rfl)
    (by simp [celP, ci, cb, cv, i0, b4, v1, v2, v3])
  exact this
set_option maxRecDepth 100000 in
theorem open_prp {r : Reach} {b0 : Nat} {v : Value} {d : DataW H} {p : List MemPlace} (hv : Value.okWide Try.prog w r b0 26 v) (h : DataW.Trod enc Try.prog w base spare held 26 v d p) : ∃ x : Prp, v = prpV x ∧ d = prpD x ∧ p = [] ∧ wfP x := by
  obtain ⟨cs, rfl, _⟩ := okWide_struct Try.underlying26 hv
  obtain ⟨fuel, hf⟩ := h
  obtain ⟨x, e1, e2, hw⟩ := trodP hf
  obtain rfl : cs = celP x := Array.toList_inj.1 e1
  cases e2
  exact ⟨x, rfl, rfl, rfl, hw⟩
set_option maxRecDepth 100000 in
theorem shut_prp {x : Prp} (hw : wfP x) : DataW.Trod enc Try.prog w base spare held 26 (prpV x) (prpD x) [] := ⟨3, trodP_mk hw⟩
end
end Go.Proofs.Ytlkgijinckhkkaa
