/-
  A heap that nobody made.
-/
import Derived.Test.YtmlgjijjkikkhaaGreatDoorUs
import Derived.Test.YtmlgjijjkikkhaaGreatDoorV2
import Derived.Great.BuildSlice
import Derived.OwnWalk
namespace Go.Proofs.YtmlgjijjkikkhaaGreatDoor
open Go.RowKit
attribute [local go_sem] stF
abbrev zP : Array Value := #[.int .i64 0, .int .i64 0, .bool false, .float .f64 0, .string ⟨#[]⟩, .int .i64 0, .int .i64 0, .bool false, .float .f64 0, .string ⟨#[]⟩, .int .i64 0, .int .i64 0, .bool false, .float .f64 0, .string ⟨#[]⟩, .int .i64 0, .bool false, .bool false, .bool false]
abbrev zO : Array Value := #[.int .i64 0, .int .i64 0, .bool false, .slice none 0 0, .int .i64 0, .bool false, .float .f64 0, .string ⟨#[]⟩, .int .i64 0, .int .i64 0, .int .i64 0, .int .i64 0, .slice none 0 0]
abbrev zH : Array Value := #[.bool false, .slice none 0 0, .int .i64 0, .int .i64 0]
/-- Nobody made this heap. -/
def Nob (w : World) (v : Value) : Prop := v = .pointer none ∨ ∃ b, v = .pointer (some ⟨b, 0, none⟩) ∧ w.heap[b]? = some (.cells zH 107 (0, 0))
theorem Nob.on {w w' : World} {v : Value} (h : Nob w v) (b : Below w.heap.size w w') : Nob w' v := by
  rcases h with h | ⟨k, h, hk⟩
  · exact .inl h
  · exact .inr ⟨k, h, (b.block _ (Array.getElem?_eq_some_iff.1 hk).1).trans hk⟩
theorem cR2 {P : Program} {fn : Func} {p q : Tmp} {ty : TypeId} {R : Ending → World → Prop} {a : Act} {w : World} {g : Nat} {v : Value} (hr : fn.results = #[.cell p ty, .tmp q]) (ha : a.tmps.getD p undef = .pointer (some ⟨g, 0, none⟩)) (hl : (loadVar ty ⟨g, 0, none⟩).run P w = .ok v w) (hd : a.defers = []) (hR : R (.returned (.tuple #[v, a.tmps.getD q undef])) w) : bodyPost P fn R .ret a w :=
  bodyPost_ret (results_cellV2 hr _ _ _ _ _ ha hl) hd hR
theorem results_c3 {fn : Func} {p q r : Tmp} {ty : TypeId} (h : fn.results = #[.cell p ty, .tmp q, .tmp r]) (tmps : Array Value) (P : Program) (w : World) (a : Addr) (v : Value) (ha : tmps.getD p undef = .pointer (some a)) (hl : (loadVar ty a).run P w = .ok v w) :
    (results fn tmps).run P w = .ok (.tuple #[v, tmps.getD q undef, tmps.getD r undef]) w := by
  simp only [results, h]
  simp [-Array.getD_eq_getD_getElem?, ha, asAddr, hl]
theorem cR3 {P : Program} {fn : Func} {p q r : Tmp} {ty : TypeId} {R : Ending → World → Prop} {a : Act} {w : World} {g : Nat} {v : Value} (hr : fn.results = #[.cell p ty, .tmp q, .tmp r]) (ha : a.tmps.getD p undef = .pointer (some ⟨g, 0, none⟩)) (hl : (loadVar ty ⟨g, 0, none⟩).run P w = .ok v w) (hd : a.defers = []) (hR : R (.returned (.tuple #[v, a.tmps.getD q undef, a.tmps.getD r undef])) w) : bodyPost P fn R .ret a w :=
  bodyPost_ret (results_c3 hr _ _ _ _ _ ha hl) hd hR
theorem new1 (W : World) (c : Array Value) (t : TypeId) : (W.alloc (.cells c t)).heap[W.heap.size]? = some (.cells c t (0, 0)) := heap_alloc_last W _
set_option maxRecDepth 100000 in
set_option maxHeartbeats 1000000 in
theorem len_nob_n (w : World) : Calls Tryz.prog 40 #[.pointer none] w fun e w' => e = .returned (.int .i64 0) ∧ w = w' := by
  go_enter Tryz.func40, Tryz.ntmps40
  go_wp2
  go_ret
  exact ⟨rfl, rfl⟩
set_option maxRecDepth 100000 in
set_option maxHeartbeats 1000000 in
theorem len_nob_u (b : Nat) (w : World) (hb : w.heap[b]? = some (.cells zH 107 (0, 0))) : Calls Tryz.prog 40 #[.pointer (some ⟨b, 0, none⟩)] w fun e w' => e = .returned (.int .i64 0) ∧ w = w' := by
  have c0 : w.cell? ⟨b, 0, none⟩ = some (.bool false) := (cell_of_row w b 0 _ _ _ hb).trans rfl
  have c1 : w.cell? ⟨b, 1, none⟩ = some (.slice none 0 0) := (cell_of_row w b 1 _ _ _ hb).trans rfl
  have c3 : w.cell? ⟨b, 3, none⟩ = some (.int .i64 0) := (cell_of_row w b 3 _ _ _ hb).trans rfl
  go_enter Tryz.func40, Tryz.ntmps40
  go_wp2
  go_ret
  exact ⟨rfl, rfl⟩
theorem len_nob {w : World} {v : Value} (h : Nob w v) : Calls Tryz.prog 40 #[v] w fun e w' => e = .returned (.int .i64 0) ∧ w = w' := by
  rcases h with rfl | ⟨b, rfl, hb⟩
  · exact len_nob_n  w
  · exact len_nob_u  b w hb
set_option maxRecDepth 100000 in
set_option maxHeartbeats 1000000 in
theorem find_nob_n (o : Int) (w : World) : Calls Tryz.prog 106 #[.pointer none, .int .i64 o] w fun e w' => e = .returned (.tuple #[.pointer none, .int .i64 1]) ∧ w = w' := by
  go_enter Tryz.func106, Tryz.ntmps106
  go_wp2
  go_ret2
  exact ⟨rfl, rfl⟩
set_option maxRecDepth 100000 in
set_option maxHeartbeats 1000000 in
theorem find_nob_u (o : Int) (b : Nat) (w : World) (hb : w.heap[b]? = some (.cells zH 107 (0, 0))) : Calls Tryz.prog 106 #[.pointer (some ⟨b, 0, none⟩), .int .i64 o] w fun e w' => e = .returned (.tuple #[.pointer none, .int .i64 1]) ∧ w = w' := by
  have c0 : w.cell? ⟨b, 0, none⟩ = some (.bool false) := (cell_of_row w b 0 _ _ _ hb).trans rfl
  have c1 : w.cell? ⟨b, 1, none⟩ = some (.slice none 0 0) := (cell_of_row w b 1 _ _ _ hb).trans rfl
  have c3 : w.cell? ⟨b, 3, none⟩ = some (.int .i64 0) := (cell_of_row w b 3 _ _ _ hb).trans rfl
  go_enter Tryz.func106, Tryz.ntmps106
  go_wp2
  go_ret2
  exact ⟨rfl, rfl⟩
theorem find_nob (o : Int) {w : World} {v : Value} (h : Nob w v) : Calls Tryz.prog 106 #[v, .int .i64 o] w fun e w' => e = .returned (.tuple #[.pointer none, .int .i64 1]) ∧ w = w' := by
  rcases h with rfl | ⟨b, rfl, hb⟩
  · exact find_nob_n o w
  · exact find_nob_u o b w hb
set_option maxRecDepth 100000 in
set_option maxHeartbeats 1000000 in
theorem object_nob (o : Int) {w : World} {v : Value} (h : Nob w v) : Calls Tryz.prog 78 #[v, .int .i64 o] w fun e w' => e = .returned (.tuple #[.agg zO, .int .i64 1]) ∧ Below w.heap.size w w' := by
  have C := Lib.hid (fun W (h : Nob W v) => find_nob o h)
  have HA := Lib.hid (fun X : Obj => h.on (below_a1 w X))
  have HB := Lib.hid (below_a1 w)
  have H := Lib.hid h
  clear h
  go_enter Tryz.func78, Tryz.ntmps78
  go_wp2_with fail
  refine (C.out _ (HA.out _)).mono ?_
  rintro e w' ⟨rfl, rfl⟩
  go_wp2_with (refine wpList_store_row rfl 70 _ _ rfl w.heap.size _ rfl rfl 70 _ (new1 w _ _) (by kernel_rfl) rfl (by kernel_rfl) ?_; rw [World.setRow_alloc_new])
  exact cR2 rfl rfl (run_loadVar_row _ w.heap.size 70 70 zO (0, 0) _ (new1 w _ _) Tryz.underlying70 rfl (by kernel_rfl)) rfl ⟨rfl, HB.out _⟩
set_option maxRecDepth 100000 in
set_option maxHeartbeats 1000000 in
theorem take_nob_n (n : Int) (w : World) : Calls Tryz.prog 61 #[.pointer none, .int .i64 n] w fun e w' => e = .returned (.bool false) ∧ ∃ n, w' = w.drewN n := by
  go_enter Tryz.func61, Tryz.ntmps61
  go_wp2
  go_quiet (skip)
  go_wp2
  go_ret
  exact ⟨rfl, _, rfl⟩
set_option maxRecDepth 100000 in
set_option maxHeartbeats 1000000 in
theorem take_nob_u (n : Int) (b : Nat) (w : World) (hb : w.heap[b]? = some (.cells zH 107 (0, 0))) : Calls Tryz.prog 61 #[.pointer (some ⟨b, 0, none⟩), .int .i64 n] w fun e w' => e = .returned (.bool false) ∧ ∃ n, w' = w.drewN n := by
  have c0 : w.cell? ⟨b, 0, none⟩ = some (.bool false) := (cell_of_row w b 0 _ _ _ hb).trans rfl
  have c1 : w.cell? ⟨b, 1, none⟩ = some (.slice none 0 0) := (cell_of_row w b 1 _ _ _ hb).trans rfl
  have c3 : w.cell? ⟨b, 3, none⟩ = some (.int .i64 0) := (cell_of_row w b 3 _ _ _ hb).trans rfl
  go_enter Tryz.func61, Tryz.ntmps61
  go_wp2
  go_quiet (skip)
  go_wp2
  go_ret
  exact ⟨rfl, _, rfl⟩
theorem take_nob (n : Int) {w : World} {v : Value} (h : Nob w v) : Calls Tryz.prog 61 #[v, .int .i64 n] w fun e w' => e = .returned (.bool false) ∧ ∃ n, w' = w.drewN n := by
  rcases h with rfl | ⟨b, rfl, hb⟩
  · exact take_nob_n n w
  · exact take_nob_u n b w hb
end Go.Proofs.YtmlgjijjkikkhaaGreatDoor
