/-
  Objects without properties.
-/
import Derived.Test.YtmlgjijjkikkhaaGreatDoorO3
import Derived.Test.YtmlgjijjkikkhaaGreatDoorV2
import Derived.Lib.SliceRun
namespace Go.Proofs.YtmlgjijjkikkhaaGreatDoor
open Go.RowKit
attribute [local go_sem] stF neqM
/-- An object, but for its lists. -/
structure Ob where
  oc : Int
  op : Int
  of : Bool
  pr : Val
  on : Int
  od : Int
  os : Int
def celO (x : Ob) (sP sB : Value) : Array Value := #[.int .i64 x.oc, .int .i64 x.op, .bool x.of, sP, .int .i64 x.pr.vk, .bool x.pr.vb, .float .f64 x.pr.vn, .string x.pr.vs, .int .i64 x.pr.vo, .int .i64 x.on, .int .i64 x.od, .int .i64 x.os, sB]
def celH (x : Ob) (sP sB sR : Value) (m : Option Nat) : Array Value := #[.int .i64 x.oc, .int .i64 x.op, .bool x.of, sP, .int .i64 x.pr.vk, .bool x.pr.vb, .float .f64 x.pr.vn, .string x.pr.vs, .int .i64 x.pr.vo, .int .i64 x.on, .int .i64 x.od, .int .i64 x.os, sB, sR, .map m]
def primK (c : Int) : Int := if c = 5 then 2 else if c = 6 then 3 else if c = 4 then 4 else 0
set_option maxRecDepth 100000 in
set_option maxHeartbeats 1000000 in
theorem prim_any (c : Int) (w : World) : Calls Tryz.prog 83 #[.int .i64 c] w fun e w' => e = .returned (.int .i64 (primK c)) ∧ w = w' := by
  unfold primK
  by_cases h5 : c = 5
  · subst h5
    go_enter Tryz.func83, Tryz.ntmps83
    go_wp2
    go_ret
    exact ⟨rfl, rfl⟩
  by_cases h6 : c = 6
  · subst h6
    go_enter Tryz.func83, Tryz.ntmps83
    go_wp2
    go_ret
    exact ⟨rfl, rfl⟩
  by_cases h4 : c = 4
  · subst h4
    go_enter Tryz.func83, Tryz.ntmps83
    go_wp2
    go_ret
    exact ⟨rfl, rfl⟩
  rw [if_neg h5, if_neg h6, if_neg h4]
  have e5 : (c == 5) = false := by simpa using h5
  have e6 : (c == 6) = false := by simpa using h6
  have e4 : (c == 4) = false := by simpa using h4
  clear h5 h6 h4
  go_enter Tryz.func83, Tryz.ntmps83
  go_wp2
  go_ret
  exact ⟨rfl, rfl⟩
theorem eqS (a : Option Addr) (n c : Nat) (w : World) : (binOp .eql 59 (.slice a n c) (.slice none 0 0)).run Tryz.prog w = .ok (.bool a.isNone) w := Lib.run_eql_slice_nil w 59 _ a n c 0 0 Tryz.underlying59
attribute [local go_sem] eqS
set_option maxRecDepth 100000 in
set_option maxHeartbeats 1000000 in
theorem clone_nil (w : World) : Calls Tryz.prog 46 #[.slice none 0 0] w fun e w' => e = .returned (.slice none 0 0) ∧ w = w' := by
  go_enter Tryz.func46, Tryz.ntmps46
  go_wp2
  go_ret
  exact ⟨rfl, rfl⟩
set_option maxRecDepth 100000 in
set_option maxHeartbeats 1000000 in
theorem indexf_nil (f : Value) (w : World) : Calls Tryz.prog 133 #[.slice none 0 0, f] w fun e w' => e = .returned (.int .i64 (-1)) ∧ w = w' := by
  go_enter Tryz.func133, Tryz.ntmps133
  go_wp2
  go_loopw [8] (fun iv wr => iv = .int .i64 0 ∧ wr = w) (fun _ _ => 0)
  case atStart => exact ⟨rfl, rfl⟩
  case round =>
    obtain ⟨rfl, rfl⟩ := hrel
    go_wp2
    go_ret
    exact ⟨rfl, rfl⟩
set_option maxRecDepth 100000 in
set_option maxHeartbeats 1000000 in
theorem containsf_nil (f : Value) (w : World) : Calls Tryz.prog 113 #[.slice none 0 0, f] w fun e w' => e = .returned (.bool false) ∧ w = w' := by
  have C := Lib.hid (fun W => indexf_nil f W)
  go_enter Tryz.func113, Tryz.ntmps113
  go_wp2_with fail
  refine (C.out _).mono ?_
  rintro e w' ⟨rfl, rfl⟩
  go_wp2
  go_ret
  exact ⟨rfl, rfl⟩
set_option maxRecDepth 100000 in
set_option maxHeartbeats 1000000 in
theorem values_nil (w : World) : Calls Tryz.prog 85 #[.slice none 0 0] w fun e w' => e = .returned (.bool true) ∧ w = w' := by
  have C := Lib.hid (fun f W => containsf_nil f W)
  go_enter Tryz.func85, Tryz.ntmps85
  go_wp2_with fail
  refine (C.out _ _).mono ?_
  rintro e w' ⟨rfl, rfl⟩
  go_wp2
  go_ret
  exact ⟨rfl, rfl⟩
abbrev zRow : Value := .agg #[.string ⟨#[]⟩, .int .i64 0, .bool false, .float .f64 0, .string ⟨#[]⟩, .int .i64 0, .pointer none, .bool false, .bool false, .bool false, .bool false]
theorem made_rows : madeCells zRow.cells (Int.toNat 0 * Tryz.t178.size) = #[] := by kernel_rfl
theorem mk_rows (w : World) : (Instr.makeSlice 131 (.int .i64 0) (.int .i64 0)).run Tryz.prog w = .ok (.slice (some ⟨w.heap.size, 0, none⟩) 0 0) (w.alloc (.cells #[] 178)) := by
  have h := run_makeSlice (P := Tryz.prog) w 131 178 Tryz.t178 zRow Tryz.underlying131 (by kernel_rfl) (by kernel_rfl) .i64 .i64 0 0 (by omega) (by omega) (by decide) (by decide) (by omega)
  rw [made_rows] at h
  exact h
/-- What stays: all but one block. -/
structure Ex (x : Nat) (w w' : World) : Prop where
  os : w'.os = w.os
  tape : w'.tape = w.tape
  output : w'.output = w.output
  size : w.heap.size ≤ w'.heap.size
  block : ∀ k, k < w.heap.size → k ≠ x → w'.heap[k]? = w.heap[k]?
set_option maxRecDepth 100000 in
set_option maxHeartbeats 1000000 in
theorem fill_nil {t : Nat} {x : Ob} {sP sB sR : Value} {w : World} (h : w.heap[t]? = some (.cells (celH x sP sB sR none) 136 (0, 0))) :
    Calls Tryz.prog 86 #[.pointer (some ⟨t, 0, none⟩), .slice none 0 0] w fun e w' => e = .returned (.bool true) ∧ (∃ q, w'.heap[t]? = some (.cells (celH x sP sB (.slice (some ⟨q, 0, none⟩) 0 0) none) 136 (0, 0))) ∧ Ex t w w' := by
  have hm := mk_rows
  have hl := (Array.getElem?_eq_some_iff.1 h).1
  have h1 := fun X => ((below_a1 w X).block t hl).trans h
  have c13 := fun X => (cell_of_row (w.alloc X) t 13 _ _ _ (h1 X)).trans (rfl : _ = some sR)
  have f13 := fun X => frozen_of_row (w.alloc X) t 13 _ _ (h1 X)
  have HQ := Lib.hid (fun X v => (heap_setCell_same (w.alloc X) t 13 _ 136 v (h1 X)).trans (rfl : _ = some (Obj.cells (celH x sP sB v none) 136 (0, 0))))
  have HE := Lib.hid (fun X v => show Ex t w ((w.alloc X).setCell ⟨t, 13, none⟩ v) from ⟨rfl, rfl, rfl, by simp [World.setCell], fun k hk hn => (Below.heap_setCell _ _ _ _ hn).trans ((below_a1 w X).block k hk)⟩)
  clear h h1 hl
  go_enter Tryz.func86, Tryz.ntmps86
  go_wp2
  go_loopw [16] (fun iv wr => iv = .int .i64 0 ∧ wr = (w.alloc (.cells #[] 178)).setCell ⟨t, 13, none⟩ (.slice (some ⟨w.heap.size, 0, none⟩) 0 0)) (fun _ _ => 0)
  case atStart => exact ⟨rfl, rfl⟩
  case round =>
    obtain ⟨rfl, rfl⟩ := hrel
    go_wp2
    go_ret
    exact ⟨rfl, ⟨_, HQ.out _ _⟩, HE.out _ _⟩
end Go.Proofs.YtmlgjijjkikkhaaGreatDoor
