/-
  Regions walked in the order of the text; values as structs in memory.
-/
import Derived.Deep.RegionHeld3
import Derived.Laws.StructEq
import Derived.Deep.WholeRow
import Derived.Laws.Rows
import Derived.Laws.Tables
import Derived.Laws.EntriesVeiled
import Derived.Laws.FloatArith
import Derived.Laws.Externs
import Derived.Deep.RegionWith
import Ieee.Arith
import GoSem.Core.Float
import GoSem.Core.Utf8
import Derived.WalkKit
import Derived.WalkSpells
import Derived.WalkLawsBesides
import Derived.Deep.QuietTactic
import Derived.BigQuiet
import Derived.Lib.Hide
import Derived.Deep.OwnRows
import Derived.Laws.CopyOwn
import Derived.Deep.AppendLies
import Derived.Lib.BitFns
import Derived.Lib.Strings
import Derived.Laws.BitsAllLaws
import Derived.Lib.LaidTab
import Derived.Lib.ItoaNum
import Derived.Deep.DeepCutAuto
import Derived.ProofKit
import Derived.OpenShut
import Derived.SizedLaws
import Derived.Laws.BytesString
import Derived.Laws.Cells
import Derived.BigRegion
import Derived.Test.YtmlgjijjkikkhaaGreatDoorProg
import Derived.Test.YtmlgjijjkikkhaaGreatDoorRows
import Derived.Test.YtmlgjijjkikkhaaGreatDoorShelf
import Derived.Test.YtmlgjijjkikkhaaGreatDoorE1
namespace Go.Proofs.YtmlgjijjkikkhaaGreatDoor
open Go.RowKit
/-- A list with one element exchanged. -/
def lset : List Value → Nat → Value → List Value
  | [], _, _ => []
  | _ :: r, 0, v => v :: r
  | a :: r, n + 1, v => a :: lset r n v
theorem lset_eq : ∀ (l : List Value) (k : Nat) (v : Value), l.set k v = lset l k v
  | [], _, _ => rfl
  | _ :: _, 0, _ => rfl
  | a :: r, n + 1, v => by rw [List.set_cons_succ, lset_eq r n v]; rfl
theorem put_l (l : List Value) (d : List Deferred) (k : Nat) (v : Value) : Act.put { tmps := l.toArray, defers := d } (some k) v = { tmps := (lset l k v).toArray, defers := d } := by
  simp [Act.put, lset_eq]
theorem take_s {P : Program} {md : Region.Mode} {ops : Array Oper} {Q : Exit → Act → World → Prop} {S : World → Prop} {i k fuel : Nat} {oi : Oper} {v : Value} {listed : Array Bool} {l : List Value} {d : List Deferred} {w : World}
    (hi : ops[i]? = some oi) (hs : Region.noSelect ops = true) (hf : Region.free md ops listed i = true) (hr : (Region.ready md ops listed).contains i = true)
    (hQ : ∀ c a w, Q (.panic c) (a.put oi.dst v) w → Q (.panic c) a w) (hy : YieldsIf P ops S oi v { tmps := l.toArray, defers := d }) (hd : oi.dst = some k) (hS : S w)
    (h : wpAnyH P md ops Q S fuel (listed.setIfInBounds i true) { tmps := (lset l k v).toArray, defers := d } w) : wpAnyH P md ops Q S (fuel + 1) listed { tmps := l.toArray, defers := d } w :=
  wpAnyH_take hi hs hf hr hQ hy hS (by rw [hd, put_l]; exact h)
theorem call_s {P : Program} {md : Region.Mode} {ops : Array Oper} {Q : Exit → Act → World → Prop} {S : World → Prop} {i k fuel : Nat} {oi : Oper} {listed : Array Bool} {l : List Value} {d : List Deferred} {w : World}
    (hr : Region.ready md ops listed = [i]) (hi : ops[i]? = some oi) (hd : oi.dst = some k) (hw : Region.wanted oi (yielded ops l.toArray) = true)
    (h : ∀ K : Act → World → Prop, Hid (∀ v w', S w' → wpAnyH P md ops Q S fuel (listed.setIfInBounds i true) { tmps := (lset l k v).toArray, defers := d } w' → K (Act.put { tmps := l.toArray, defers := d } oi.dst v) w') → Oper.wp P oi { tmps := l.toArray, defers := d } w K Q) :
    wpAnyH P md ops Q S (fuel + 1) listed { tmps := l.toArray, defers := d } w :=
  wpAnyH_ready hr (by simp) (AllReadyH.cons hi (fun K hK => by
    rw [if_pos hw]
    refine h K (Lib.hid fun v w' hS hW => ?_)
    refine hK.out _ _ hS (fun _ => ?_)
    rw [hd, put_l]
    exact hW) AllReadyH.nil)
theorem below_a1 (w : World) (a : Obj) : Below w.heap.size w (w.alloc a) := (Below.refl _ _).alloc (Nat.le_refl _) _
theorem below_a2 (w : World) (a b : Obj) : Below w.heap.size w ((w.alloc a).alloc b) := (below_a1 w a).alloc (by simp) _
theorem bits_nat (n m : Nat) : ((n : Int) == (m : Int)) = (n == m) := by
  rw [Bool.eq_iff_iff, beq_iff_eq, beq_iff_eq]
  omega
theorem kept {W w' : World} (h : Below W.heap.size W w') (a : Addr) (v : Value) (hc : W.cell? a = some v) : w'.cell? a = some v := by
  rw [← hc]
  refine h.cell ?_
  rcases Nat.lt_or_ge a.block W.heap.size with h' | h'
  · exact h'
  · simp [World.cell?, Array.getElem?_eq_none h'] at hc
theorem below_setRowK {B g : Nat} {a w : World} (h : Below B a w) (hg : B ≤ g) (c : Array Value) : Below B a (w.setRow g c) :=
  ⟨h.os, h.tape, h.output, by rw [setRow_size]; exact h.size, fun k hk => (setRow_other w g k c (by omega)).trans (h.block k hk)⟩
theorem results_cellV {fn : Func} {p : Tmp} {ty : TypeId} (h : fn.results = #[.cell p ty]) (tmps : Array Value) (P : Program) (w : World) (a : Addr) (v : Value) (ha : tmps.getD p undef = .pointer (some a)) (hl : (loadVar ty a).run P w = .ok v w) :
    (results fn tmps).run P w = .ok v w := by
  simp only [results, h]
  simp [-Array.getD_eq_getD_getElem?, ha, asAddr, hl]
theorem results_cellV2 {fn : Func} {p t : Tmp} {ty : TypeId} (h : fn.results = #[.cell p ty, .tmp t]) (tmps : Array Value) (P : Program) (w : World) (a : Addr) (v : Value) (ha : tmps.getD p undef = .pointer (some a)) (hl : (loadVar ty a).run P w = .ok v w) :
    (results fn tmps).run P w = .ok (.tuple #[v, tmps.getD t undef]) w := by
  simp only [results, h]
  simp [-Array.getD_eq_getD_getElem?, ha, asAddr, hl]
/-- The cells of a value; those of none. -/
def celV (v : Val) : Array Value := #[.int .i64 v.vk, .bool v.vb, .float .f64 v.vn, .string v.vs, .int .i64 v.vo]
def zV : Array Value := #[.int .i64 0, .bool false, .float .f64 0, .string ⟨#[]⟩, .int .i64 0]
theorem vlS {ops : Array Oper} {rest : List Oper} {o : Oper} {a : Act} {w : World} {Q : Exit → Act → World → Prop} {x y : Operand} (hgd : o.guard = none) (ho : o.op = .store 57 x y) (g : Nat) (k : Int) (b : Bool) (n : Nat) (s : ByteArray) (q : Int)
    (hx : a.eval x = .pointer (some ⟨g, 0, none⟩)) (hy : a.eval y = .agg #[.int .i64 k, .bool b, .float .f64 n, .string s, .int .i64 q])
    (hg : w.heap[g]? = some (.cells #[.int .i64 0, .bool false, .float .f64 0, .string ⟨#[]⟩, .int .i64 0] 57 (0, 0)))
    (h : wpList Tryz.prog ops Q rest (a.put o.dst undef) (w.setRow g #[.int .i64 k, .bool b, .float .f64 n, .string s, .int .i64 q])) : wpList Tryz.prog ops Q (o :: rest) a w :=
  wpList_store_row hgd 57 x y ho g _ hx hy 57 _ hg (by kernel_rfl) rfl (by kernel_rfl) h
theorem vlR {fn : Func} {p : Tmp} {R : Ending → World → Prop} {a : Act} {w : World} {g : Nat} {c : Array Value} (hr : fn.results = #[.cell p 57]) (ha : a.tmps.getD p undef = .pointer (some ⟨g, 0, none⟩))
    (hG : w.heap[g]? = some (.cells c 57 (0, 0))) (hc : c.size = 5) (hd : a.defers = []) (hR : R (.returned (.agg c)) w) : bodyPost Tryz.prog fn R .ret a w :=
  bodyPost_ret (results_cellV hr _ _ _ _ _ ha (run_loadVar_row _ g 57 57 _ (0, 0) _ hG Tryz.underlying57 rfl (by rw [hc]; kernel_rfl))) hd hR
theorem vlR2 {fn : Func} {p t : Tmp} {R : Ending → World → Prop} {a : Act} {w : World} {g : Nat} {c : Array Value} (hr : fn.results = #[.cell p 57, .tmp t]) (ha : a.tmps.getD p undef = .pointer (some ⟨g, 0, none⟩))
    (hG : w.heap[g]? = some (.cells c 57 (0, 0))) (hc : c.size = 5) (hd : a.defers = []) (hR : R (.returned (.tuple #[.agg c, a.tmps.getD t undef])) w) : bodyPost Tryz.prog fn R .ret a w :=
  bodyPost_ret (results_cellV2 hr _ _ _ _ _ ha (run_loadVar_row _ g 57 57 _ (0, 0) _ hG Tryz.underlying57 rfl (by rw [hc]; kernel_rfl))) hd hR

end Go.Proofs.YtmlgjijjkikkhaaGreatDoor
