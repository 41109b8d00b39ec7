/-
  A value as an argument: read as plain data, and read again.
-/
import Derived.Test.YtlkgijinckhkkaaE1
import Derived.Test.YtlkgijinckhkkaaRows
import Derived.ProofKit
import Derived.OpenShut
import Derived.ShutString
import Derived.Laws.Cover2
import Derived.Lib.SmallJoins
namespace Go.Proofs.Ytlkgijinckhkkaa
open Go.ChangeShapes Go.WideShapes Go.ChangeAt Go.RowKit Go.Joins
section
variable {H : Type} {enc : TypeId × Value → H} {w : World} {base : Nat} {spare : Nat → Bool} {held : Bool}
def celW (v : Val) : Array Value := #[.int .i64 v.vk, .bool v.vb, .float .f64 v.vn, .string v.vs, .int .i64 v.vo]
def valD (v : Val) : DataW H := .agg [.lit (.int .i64 v.vk), .lit (.bool v.vb), .lit (.float .f64 v.vn), .lit (.string v.vs.data.toList), .lit (.int .i64 v.vo)]
structure wfV (v : Val) : Prop where
  k : (Lit.int .i64 v.vk).wf = true
  n : (Lit.float .f64 v.vn).wf = true
  s : v.vs.size ≤ maxLen
  o : (Lit.int .i64 v.vo).wf = true
theorem wfV.num {v : Val} (h : wfV v) : v.vn < 18446744073709551616 := by
  have := h.n
  simp only [Lit.wf, decide_eq_true_eq] at this
  exact this
theorem trod_float' {P : Program} {t : TypeId} {k : FloatKind} {fuel : Nat} {cs : List Value} {x : DataW H × List MemPlace} (ht : P.underlying t = some (.float k)) (h : DataW.trod enc P w base spare held fuel t cs = some x) :
    ∃ b, cs = [.float k b] ∧ x = (.lit (.float k b), []) ∧ (Lit.float k b).wf = true := by
  cases fuel with
  | zero => simp [DataW.trod] at h
  | succ n =>
    unfold DataW.trod at h
    rw [ht] at h
    split at h <;> simp_all
set_option maxRecDepth 100000 in
theorem trodV {fuel : Nat} {cs : List Value} {x : DataW H × List MemPlace} (h : DataW.trod enc Try.prog w base spare held fuel 24 cs = some x) : ∃ v, cs = (celW v).toList ∧ x = (valD v, []) ∧ wfV v := by
  obtain ⟨xs, n, rfl, rfl, hl, hlen, hf⟩ := DataW.trod_struct Try.underlying24 h
  have ci : Try.prog.cellsOf 3 = 1 := by kernel_rfl
  have cb : Try.prog.cellsOf 4 = 1 := by kernel_rfl
  have cf : Try.prog.cellsOf 22 = 1 := by kernel_rfl
  have cst : Try.prog.cellsOf 9 = 1 := by kernel_rfl
  rw [show Try.prog.cellsOf 24 = 5 by kernel_rfl] at hl
  match cs, hl with
  | [c0, c1, c2, c3, c4], _ =>
    match xs, hlen with
    | [y0, y1, y2, y3, y4], _ =>
      have g0 : DataW.trod enc Try.prog w base spare held n 3 [c0] = some y0 := by
        have q := hf 0 _ rfl
        have e : ([c0, c1, c2, c3, c4].drop 0).take (Try.prog.cellsOf 3) = [c0] := by rw [ci]; rfl
        rw [← e]
        exact q
      have g1 : DataW.trod enc Try.prog w base spare held n 4 [c1] = some y1 := by
        have q := hf 1 _ rfl
        have e : ([c0, c1, c2, c3, c4].drop 1).take (Try.prog.cellsOf 4) = [c1] := by rw [cb]; rfl
        rw [← e]
        exact q
      have g2 : DataW.trod enc Try.prog w base spare held n 22 [c2] = some y2 := by
        have q := hf 2 _ rfl
        have e : ([c0, c1, c2, c3, c4].drop 2).take (Try.prog.cellsOf 22) = [c2] := by rw [cf]; rfl
        rw [← e]
        exact q
      have g3 : DataW.trod enc Try.prog w base spare held n 9 [c3] = some y3 := by
        have q := hf 3 _ rfl
        have e : ([c0, c1, c2, c3, c4].drop 3).take (Try.prog.cellsOf 9) = [c3] := by rw [cst]; rfl
        rw [← e]
        exact q
      have g4 : DataW.trod enc Try.prog w base spare held n 3 [c4] = some y4 := by
        have q := hf 4 _ rfl
        have e : ([c0, c1, c2, c3, c4].drop 4).take (Try.prog.cellsOf 3) = [c4] := by rw [ci]; rfl
        rw [← e]
        exact q
      obtain ⟨k, e0, rfl, w0⟩ := DataW.trod_int Try.underlying3 g0
      obtain ⟨b, e1, rfl⟩ := DataW.trod_bool Try.underlying4 g1
      obtain ⟨m, e2, rfl, w2⟩ := trod_float' Try.underlying22 g2
      obtain ⟨s, e3, rfl, w3⟩ := DataW.trod_string Try.underlying9 g3
      obtain ⟨o, e4, rfl, w4⟩ := DataW.trod_int Try.underlying3 g4
      simp only [List.cons.injEq, and_true] at e0 e1 e2 e3 e4
      subst e0 e1 e2 e3 e4
      exact ⟨⟨k, b, m, s, o⟩, rfl, rfl, ⟨w0, w2, w3, w4⟩⟩
set_option maxRecDepth 100000 in
theorem trodV_mk {v : Val} (hw : wfV v) : DataW.trod enc Try.prog w base spare held 2 24 (celW v).toList = some (valD v, []) := by
  have ci : Try.prog.cellsOf 3 = 1 := by kernel_rfl
  have cb : Try.prog.cellsOf 4 = 1 := by kernel_rfl
  have cf : Try.prog.cellsOf 22 = 1 := by kernel_rfl
  have cst : Try.prog.cellsOf 9 = 1 := by kernel_rfl
  have := trod_struct_mk (enc := enc) (w := w) (base := base) (spare := spare) (held := held) (n := 1) (cs := (celW v).toList) (xs := [(.lit (.int .i64 v.vk), []), (.lit (.bool v.vb), []), (.lit (.float .f64 v.vn), []), (.lit (.string v.vs.data.toList), []), (.lit (.int .i64 v.vo), [])]) Try.underlying24 (by rw [show Try.prog.cellsOf 24 = 5 by kernel_rfl]; rfl)
    (by simp [celW, ci, cb, cf, cst, DataW.trod, Try.underlying3, Try.underlying4, Try.underlying22, Try.underlying9, hw.k, hw.n, hw.s, hw.o])
  exact this
set_option maxRecDepth 100000 in
theorem open_val {r : Reach} {b0 : Nat} {v : Value} {d : DataW H} {p : List MemPlace} (hv : Value.okWide Try.prog w r b0 24 v) (h : DataW.Trod enc Try.prog w base spare held 24 v d p) : ∃ x : Val, v = valV x ∧ d = valD x ∧ p = [] ∧ wfV x := by
  obtain ⟨cs, rfl, _⟩ := okWide_struct Try.underlying24 hv
  obtain ⟨fuel, hf⟩ := h
  obtain ⟨x, e1, e2, hw⟩ := trodV hf
  obtain rfl : cs = celW x := Array.toList_inj.1 e1
  cases e2
  exact ⟨x, rfl, rfl, rfl, hw⟩
set_option maxRecDepth 100000 in
theorem shut_val {x : Val} (hw : wfV x) : DataW.Trod enc Try.prog w base spare held 24 (valV x) (valD x) [] := ⟨2, trodV_mk hw⟩
end
end Go.Proofs.Ytlkgijinckhkkaa
