/-
  Limits, floats, small numbers as arguments: read as plain data.
-/
import Derived.Test.YtmlgjijjkikkhaaGreatDoorM3
import Derived.Test.YtmlgjijjkikkhaaGreatDoorFrameM
import Derived.Test.YtmlgjijjkikkhaaGreatDoorCards
import Derived.Test.YtmlgjijjkikkhaaGreatDoorTie
import Derived.ProofKit
import Derived.OpenShut
import Derived.SizedLaws
import Derived.ShutString
import Derived.Lib.SmallJoins
import Derived.WideShapes
import Derived.ChangeSlices
import Derived.JoinedCond
import Derived.Carry
import Derived.Laws.Cover2
namespace Go.Proofs.YtmlgjijjkikkhaaGreatDoor
open Go.ChangeShapes Go.WideShapes Go.ChangeAt Go.RowKit Go.Joins
theorem own : ownKnob Tryz.prog.godebug = none := by kernel_rfl
theorem laidOut : laidOutB Tryz.prog = true := by kernel_rfl
theorem wf_float {x : Nat} (h : (Lit.float .f64 x).wf = true) : x < 18446744073709551616 := by
  simp only [Lit.wf, decide_eq_true_eq] at h
  exact h
def numF {H : Type} (y : DataW H × List MemPlace) : Nat := match y.1 with | .lit (.float _ n) => n | _ => 0
theorem trod_f64 {H : Type} {enc : TypeId × Value → H} {P : Program} {w : World} {base : Nat} {spare : Nat → Bool} {held : Bool} {fuel : Nat} {t : TypeId} {cs : List Value} {x : DataW H × List MemPlace} {k : FloatKind} (ht : P.underlying t = some (.float k)) (h : DataW.trod enc P w base spare held fuel t cs = some x) : ∃ n, cs = [.float k n] ∧ x = (.lit (.float k n), []) ∧ (Lit.float k n).wf = true := by
  cases fuel with
  | zero => simp [DataW.trod] at h
  | succ n =>
    unfold DataW.trod at h
    rw [ht] at h
    split at h <;> simp_all
theorem bytesF : Tryz.prog.bytesOf 41 = 8 := by kernel_rfl
theorem floats_open {H : Type} {enc : TypeId × Value → H} {W : World} {a : Option Addr} {len cap : Nat} {d : DataW H} {p : List MemPlace}
    (h : DataW.Trod enc Tryz.prog W 0 (fun _ => true) true 24 (.slice a len cap) d p) :
    ∃ ls : List Nat, ls.length = len ∧ len ≤ cap ∧ RF W W.heap.size a ls ∧ (a = none → cap = 0) ∧ (len = 0 ∨ ∃ es sp, d = .slice es sp ∧ es.length = len) := by
  obtain ⟨fuel, hf⟩ := h
  rcases DataW.trod_slice Tryz.underlying24 hf with ⟨hcs, _⟩ | ⟨x, l, c, elems, rest, n, _, hcs, hx, hb, hl, hm, hlen, hel, hsp, hns⟩
  · simp [Value.cells] at hcs
    obtain ⟨rfl, rfl, rfl⟩ := hcs
    exact ⟨[], rfl, Nat.le_refl _, RF.nil _ _ _, fun _ => rfl, .inl rfl⟩
  · simp [Value.cells] at hcs
    obtain ⟨rfl, rfl, rfl⟩ := hcs
    have each : ∀ i y, elems[i]? = some y → W.cell? (x.add i) = some (.float .f64 (numF y)) ∧ numF y < 18446744073709551616 := by
      intro i y hy
      have hi : i < len := by have := (List.getElem?_eq_some_iff.1 hy).1; omega
      have h1 := hel i hi
      rw [hy, show Tryz.prog.cellsOf 41 = 1 by kernel_rfl, Nat.mul_one, Option.bind_eq_some_iff] at h1
      obtain ⟨cs', h2, h3⟩ := h1
      obtain ⟨m, rfl, rfl, hw⟩ := trod_f64 Tryz.underlying41 h3
      exact ⟨cell_of_cells?_one h2, wf_float hw⟩
    by_cases h0 : len = 0
    · subst h0
      exact ⟨[], rfl, hl, RF.nil _ _ _, fun e => (by cases e), .inl rfl⟩
    · obtain ⟨b, off, spot⟩ := x
      have hfst := (each 0 (elems[0]'(by omega)) (List.getElem?_eq_getElem (by omega))).1
      have hspot : spot = none := by simpa [Addr.add] using World.cell?_spot hfst
      subst hspot
      have hbl : b < W.heap.size := by
        rcases Nat.lt_or_ge b W.heap.size with h' | h'
        · exact h'
        · simp [World.cell?, Addr.add, Array.getElem?_eq_none h'] at hfst
      refine ⟨elems.map numF, by simp; exact hlen, hl, ⟨?_, fun _ => ⟨b, off, rfl, hbl, ?_⟩⟩, fun e => (by cases e), .inr ⟨elems.map (·.1), rest.map (·.1), by simpa using congrArg Prod.fst hx, by simp; exact hlen⟩⟩
      · intro u hu
        obtain ⟨y, hy, rfl⟩ := List.mem_map.1 hu
        obtain ⟨i, hi⟩ := List.getElem?_of_mem hy
        exact (each i y hi).2
      · intro k u hk
        rw [List.getElem?_map] at hk
        obtain ⟨y, hy, rfl⟩ := Option.map_eq_some_iff.1 hk
        have h1 := (each k y hy).1
        by_cases hk0 : k = 0
        · subst hk0; simpa [Addr.add] using h1
        · simpa [Addr.add, hk0] using h1
theorem floats_reach {H : Type} {ts : List TypeId} {ds : List (DataW H)} (h : (DataW.weightsEach Tryz.prog ts ds).all (· ≤ reachBytes) = true) {j : Nat} {d : DataW H} {len : Nat} (ht : ts[j]? = some 24) (hd : ds[j]? = some d)
    (hs : len = 0 ∨ ∃ es sp, d = .slice es sp ∧ es.length = len) : len ≤ 17592186043904 := by
  rcases hs with rfl | ⟨es, sp, rfl, rfl⟩
  · omega
  · have := sized_slice h ht hd Tryz.underlying24
    rw [bytesF] at this
    have e : reachBytes = 140737488351232 := rfl
    rw [e] at this
    omega
section
variable {H : Type} {enc : TypeId × Value → H} {w : World} {base : Nat} {spare : Nat → Bool} {held : Bool}
set_option maxRecDepth 100000 in
theorem trodL {fuel : Nat} {cs : List Value} {x : DataW H × List MemPlace} (h : DataW.trod enc Tryz.prog w base spare held fuel 23 cs = some x) : ∃ a b c d : Int, cs = [.int .i64 a, .int .i64 b, .int .i64 c, .int .i64 d] := by
  obtain ⟨xs, n, rfl, rfl, hl, hlen, hf⟩ := DataW.trod_struct Tryz.underlying23 h
  have ci : Tryz.prog.cellsOf 3 = 1 := by kernel_rfl
  rw [show Tryz.prog.cellsOf 23 = 4 by kernel_rfl] at hl
  match cs, hl with
  | [c0, c1, c2, c3], _ =>
    match xs, hlen with
    | [y0, y1, y2, y3], _ =>
      have g0 : DataW.trod enc Tryz.prog w base spare held n 3 [c0] = some y0 := by
        have q := hf 0 _ rfl
        have e : ([c0, c1, c2, c3].drop 0).take (Tryz.prog.cellsOf 3) = [c0] := by rw [ci]; rfl
        rw [← e]
        exact q
      have g1 : DataW.trod enc Tryz.prog w base spare held n 3 [c1] = some y1 := by
        have q := hf 1 _ rfl
        have e : ([c0, c1, c2, c3].drop 1).take (Tryz.prog.cellsOf 3) = [c1] := by rw [ci]; rfl
        rw [← e]
        exact q
      have g2 : DataW.trod enc Tryz.prog w base spare held n 3 [c2] = some y2 := by
        have q := hf 2 _ rfl
        have e : ([c0, c1, c2, c3].drop 2).take (Tryz.prog.cellsOf 3) = [c2] := by rw [ci]; rfl
        rw [← e]
        exact q
      have g3 : DataW.trod enc Tryz.prog w base spare held n 3 [c3] = some y3 := by
        have q := hf 3 _ rfl
        have e : ([c0, c1, c2, c3].drop 3).take (Tryz.prog.cellsOf 3) = [c3] := by rw [ci]; rfl
        rw [← e]
        exact q
      obtain ⟨a, e0, rfl, _⟩ := DataW.trod_int Tryz.underlying3 g0
      obtain ⟨b, e1, rfl, _⟩ := DataW.trod_int Tryz.underlying3 g1
      obtain ⟨c, e2, rfl, _⟩ := DataW.trod_int Tryz.underlying3 g2
      obtain ⟨d, e3, rfl, _⟩ := DataW.trod_int Tryz.underlying3 g3
      simp only [List.cons.injEq, and_true] at e0 e1 e2 e3
      subst e0 e1 e2 e3
      exact ⟨a, b, c, d, rfl⟩
set_option maxRecDepth 100000 in
theorem open_lim {r : Reach} {b0 : Nat} {v : Value} {d : DataW H} {p : List MemPlace} (hv : Value.okWide Tryz.prog w r b0 23 v) (h : DataW.Trod enc Tryz.prog w base spare held 23 v d p) : ∃ a b c e : Int, v = .agg #[.int .i64 a, .int .i64 b, .int .i64 c, .int .i64 e] := by
  obtain ⟨cs, rfl, _⟩ := okWide_struct Tryz.underlying23 hv
  obtain ⟨fuel, hf⟩ := h
  obtain ⟨a, b, c, e, he⟩ := trodL hf
  obtain rfl : cs = #[.int .i64 a, .int .i64 b, .int .i64 c, .int .i64 e] := Array.toList_inj.1 he
  exact ⟨a, b, c, e, rfl⟩
end
end Go.Proofs.YtmlgjijjkikkhaaGreatDoor
