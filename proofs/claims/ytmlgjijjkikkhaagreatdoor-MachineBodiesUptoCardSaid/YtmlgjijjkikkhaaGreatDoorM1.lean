/-
  A machine in memory: what it tells, and what turns it.
-/
import Derived.Test.YtmlgjijjkikkhaaGreatDoorOg1
import Derived.StillTailTactics
import Derived.Laws.EntriesVeiled
namespace Go.Proofs.YtmlgjijjkikkhaaGreatDoor
open Go.RowKit
attribute [local go_sem] stF neqM eqS
/-- A machine. -/
structure Mx where
  ov : Bool
  l0 : Int
  l1 : Int
  l2 : Int
  l3 : Int
  left : Int
  hb : Nat
  kn : Nat → Int
  dr : Value
  dn : Int
  nats : Value
  body : Value
  codes : Value
  envs : Value
  calls : Int
  nest : Int
abbrev celM (x : Mx) : Array Value := #[.bool true, .bool x.ov, .int .i64 x.l0, .int .i64 x.l1, .int .i64 x.l2, .int .i64 x.l3, .int .i64 x.left, .pointer (some ⟨x.hb, 0, none⟩), .int .i64 (x.kn 0), .int .i64 (x.kn 1), .int .i64 (x.kn 2), .int .i64 (x.kn 3), .int .i64 (x.kn 4), .int .i64 (x.kn 5), .int .i64 (x.kn 6), .int .i64 (x.kn 7), .int .i64 (x.kn 8), .int .i64 (x.kn 9), .int .i64 (x.kn 10), .int .i64 (x.kn 11), .int .i64 (x.kn 12), .int .i64 (x.kn 13), .int .i64 (x.kn 14), x.dr, .int .i64 x.dn, x.nats, x.body, x.codes, x.envs, .int .i64 x.calls, .int .i64 x.nest]
/-- It lies in block m. -/
def Mc (W : World) (m : Nat) (x : Mx) : Prop := W.heap[m]? = some (.cells (celM x) 91 (0, 0))
theorem Mc.lt {W : World} {m : Nat} {x : Mx} (h : Mc W m x) : m < W.heap.size := (Array.getElem?_eq_some_iff.1 h).1
theorem Mc.on {W W' : World} {m : Nat} {x : Mx} (h : Mc W m x) (b : Below W.heap.size W W') : Mc W' m x := (b.block _ h.lt).trans h
theorem Mc.kh {W W' : World} {m hb : Nat} {x : Mx} (h : Mc W m x) (k : Kh hb W W') (hn : m ≠ hb) : Mc W' m x :=
  k.oth m _ h (by simpa using hn) (by intro c fz e; cases e)
theorem Mc.ey {W W' : World} {m g : Nat} {x : Mx} (h : Mc W m x) (k : Ey W.heap.size g W W') (hn : m ≠ g) : Mc W' m x := (k.block _ h.lt hn).trans h
theorem Mc.cell {W : World} {m : Nat} {x : Mx} (h : Mc W m x) {k : Nat} {u : Value} (hv : (celM x)[k]? = some u) : W.cell? ⟨m, k, none⟩ = some u := (cell_of_row W m k _ _ _ h).trans hv
theorem Mc.frozen {W : World} {m : Nat} {x : Mx} (h : Mc W m x) (k : Nat) : W.frozen? ⟨m, k, none⟩ = false := frozen_of_row W m k _ _ h
theorem Mc.set {W : World} {m : Nat} {x : Mx} (h : Mc W m x) (k : Nat) (v : Value) (y : Mx) (hy : (celM x).setIfInBounds k v = celM y) : Mc (W.setCell ⟨m, k, none⟩ v) m y :=
  (heap_setCell_same W m k _ 91 v h).trans (by rw [hy])
theorem ey_set (w : World) (m k : Nat) (v : Value) : Ey w.heap.size m w (w.setCell ⟨m, k, none⟩ v) :=
  ⟨rfl, rfl, rfl, by simp [World.setCell], fun j _ hj => Below.heap_setCell w _ _ _ hj⟩
theorem Ey.trans {n g : Nat} {a b c : World} (h : Ey n g a b) (k : Ey n g b c) : Ey n g a c :=
  ⟨k.os.trans h.os, k.tape.trans h.tape, k.output.trans h.output, Nat.le_trans h.size k.size, fun i hi hn => (k.block i hi hn).trans (h.block i hi hn)⟩
theorem Ey.mono {n k g : Nat} {a b : World} (h : Ey n g a b) (hk : k ≤ n) : Ey k g a b := ⟨h.os, h.tape, h.output, h.size, fun i hi hn => h.block i (by omega) hn⟩
theorem Ey.below {n g : Nat} {a b : World} (h : Ey n g a b) {k : Nat} (hk : k ≤ n) (hg : k ≤ g) : Below k a b := ⟨h.os, h.tape, h.output, h.size, fun i hi => h.block i (by omega) (by omega)⟩
theorem Ey.of {n g : Nat} {a b : World} (h : Below n a b) : Ey n g a b := ⟨h.os, h.tape, h.output, h.size, fun i hi _ => h.block i hi⟩
set_option maxRecDepth 100000 in
set_option maxHeartbeats 1000000 in
theorem there_m {w : World} {m : Nat} {x : Mx} (h : Mc w m x) : Calls Tryz.prog 41 #[.pointer (some ⟨m, 0, none⟩)] w fun e w' => e = .returned (.bool true) ∧ w = w' := by
  have c0 : w.cell? ⟨m, 0, none⟩ = some (.bool true) := h.cell rfl
  clear h
  go_enter Tryz.func41, Tryz.ntmps41
  go_wp2
  go_ret
  exact ⟨rfl, rfl⟩
set_option maxRecDepth 100000 in
set_option maxHeartbeats 1000000 in
theorem on_m {w : World} {m : Nat} {x : Mx} (h : Mc w m x) : Calls Tryz.prog 47 #[.pointer (some ⟨m, 0, none⟩)] w fun e w' => e = .returned (.bool (!x.ov)) ∧ w = w' := by
  have c1 : w.cell? ⟨m, 1, none⟩ = some (.bool x.ov) := h.cell rfl
  have C1 := Lib.hid (there_m h)
  clear h
  go_enter Tryz.func47, Tryz.ntmps47
  go_wp2_with fail
  refine C1.out.mono ?_
  rintro e w' ⟨rfl, rfl⟩
  clear C1
  go_wp2
  go_ret
  exact ⟨rfl, rfl⟩
set_option maxRecDepth 100000 in
set_option maxHeartbeats 1000000 in
theorem left_m {w : World} {m : Nat} {x : Mx} (h : Mc w m x) : Calls Tryz.prog 10 #[.pointer (some ⟨m, 0, none⟩)] w fun e w' => e = .returned (.int .i64 x.left) ∧ w = w' := by
  have c1 : w.cell? ⟨m, 6, none⟩ = some (.int .i64 x.left) := h.cell rfl
  have C1 := Lib.hid (there_m h)
  clear h
  go_enter Tryz.func10, Tryz.ntmps10
  go_wp2_with fail
  refine C1.out.mono ?_
  rintro e w' ⟨rfl, rfl⟩
  clear C1
  go_wp2
  go_ret
  exact ⟨rfl, rfl⟩
set_option maxRecDepth 100000 in
set_option maxHeartbeats 1000000 in
theorem heap_m {w : World} {m : Nat} {x : Mx} (h : Mc w m x) : Calls Tryz.prog 38 #[.pointer (some ⟨m, 0, none⟩)] w fun e w' => e = .returned (.pointer (some ⟨x.hb, 0, none⟩)) ∧ w = w' := by
  have c1 : w.cell? ⟨m, 7, none⟩ = some (.pointer (some ⟨x.hb, 0, none⟩)) := h.cell rfl
  have C1 := Lib.hid (there_m h)
  clear h
  go_enter Tryz.func38, Tryz.ntmps38
  go_wp2_with fail
  refine C1.out.mono ?_
  rintro e w' ⟨rfl, rfl⟩
  clear C1
  go_wp2
  go_ret
  exact ⟨rfl, rfl⟩
set_option maxRecDepth 100000 in
set_option maxHeartbeats 1000000 in
theorem over_m {w : World} {m : Nat} {x : Mx} (h : Mc w m x) : Calls Tryz.prog 12 #[.pointer (some ⟨m, 0, none⟩)] w fun e w' => e = .returned (.bool x.ov) ∧ w = w' := by
  have c1 : w.cell? ⟨m, 1, none⟩ = some (.bool x.ov) := h.cell rfl
  have C1 := Lib.hid (there_m h)
  clear h
  go_enter Tryz.func12, Tryz.ntmps12
  go_wp2_with fail
  refine C1.out.mono ?_
  rintro e w' ⟨rfl, rfl⟩
  clear C1
  go_wp2
  go_ret
  exact ⟨rfl, rfl⟩
set_option maxRecDepth 100000 in
set_option maxHeartbeats 1000000 in
theorem drawn_m {w : World} {m : Nat} {x : Mx} (h : Mc w m x) : Calls Tryz.prog 13 #[.pointer (some ⟨m, 0, none⟩)] w fun e w' => e = .returned (.int .i64 x.dn) ∧ w = w' := by
  have c1 : w.cell? ⟨m, 24, none⟩ = some (.int .i64 x.dn) := h.cell rfl
  have C1 := Lib.hid (there_m h)
  clear h
  go_enter Tryz.func13, Tryz.ntmps13
  go_wp2_with fail
  refine C1.out.mono ?_
  rintro e w' ⟨rfl, rfl⟩
  clear C1
  go_wp2
  go_ret
  exact ⟨rfl, rfl⟩
/-- An end: its kind, its value. -/
abbrev celD (k : Int) (v : Val) (s : ByteArray) : Array Value := #[.int .i64 k, .int .i64 v.vk, .bool v.vb, .float .f64 v.vn, .string v.vs, .int .i64 v.vo, .string s]
abbrev zD : Array Value := #[.int .i64 0, .int .i64 0, .bool false, .float .f64 0, .string ⟨#[]⟩, .int .i64 0, .string ⟨#[]⟩]
set_option maxRecDepth 100000 in
set_option maxHeartbeats 1000000 in
theorem stop_m {w : World} {m : Nat} {x : Mx} (h : Mc w m x) : Calls Tryz.prog 48 #[.pointer (some ⟨m, 0, none⟩)] w fun e w' => e = .returned (.agg (celD 5 valU ⟨#[]⟩)) ∧ Mc w' m { x with ov := true } ∧ Ey w.heap.size m w w' := by
  have h1 := h.on (below_a1 w (.cells zD 63))
  have hb := below_a1 w (.cells zD 63)
  have hn := new1 w zD 63
  have hl := h.lt
  have hs : (w.alloc (.cells zD 63)).heap.size = w.heap.size + 1 := by simp
  clear h
  go_enter Tryz.func48, Tryz.ntmps48
  go_upto_region 1 with fail
  obtain ⟨W1, hW1⟩ : ∃ W1, w.alloc (.cells zD 63) = W1 := ⟨_, rfl⟩
  rw [hW1] at h1 hb hn hs ⊢
  clear hW1
  have C1 := Lib.hid (there_m h1)
  go_wp2_with fail
  refine C1.out.mono ?_
  rintro e w' ⟨rfl, rfl⟩
  clear C1
  have c1 : W1.cell? ⟨m, 1, none⟩ = some (.bool x.ov) := h1.cell rfl
  have f1 := h1.frozen 1
  have h2 := h1.set 1 (.bool true) { x with ov := true } rfl
  have n2 : (W1.setCell ⟨m, 1, none⟩ (.bool true)).heap[w.heap.size]? = some (.cells zD 63 (0, 0)) := ((ey_set W1 m 1 (.bool true)).block _ (by omega) (by omega)).trans hn
  have e2 : Ey w.heap.size m w (W1.setCell ⟨m, 1, none⟩ (.bool true)) := (Ey.of hb).trans ((ey_set W1 m 1 _).mono hb.size)
  have H2 := Lib.hid h2
  have E2 := Lib.hid e2
  have HL := Lib.hid hl
  clear h1 hb hn h2 e2 hs hl
  go_wp2_with (refine wpList_store_row rfl 63 _ _ rfl w.heap.size _ rfl rfl 63 _ n2 (by kernel_rfl) rfl (by kernel_rfl) ?_)
  refine bodyPost_ret (results_cellV rfl _ _ _ _ _ rfl (run_loadVar_row _ w.heap.size 63 63 (celD 5 valU ⟨#[]⟩) (0, 0) _ (setRow_heap _ _ _ _ _ _ n2) Tryz.underlying63 rfl (by kernel_rfl))) rfl ⟨rfl, ?_, ?_⟩
  · exact ((below_setRowK (B := w.heap.size) (Below.refl _ _) (Nat.le_refl _) _).block _ HL.out).trans H2.out
  · exact E2.out.trans (Ey.of (below_setRowK (Below.refl _ _) (Nat.le_refl _) _))
end Go.Proofs.YtmlgjijjkikkhaaGreatDoor
