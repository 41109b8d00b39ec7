/-
  The list of no properties.
-/
import Derived.Test.YtmlgjijjkikkhaaGreatDoorO8
import Derived.Test.YtmlgjijjkikkhaaGreatDoorJr
import Derived.RangeFuncNested
import Derived.RangeFuncBound
import Derived.Shelf.Abstract
import Derived.Shelf.RegionOpen
import Derived.TacticsInMore
import Derived.LoopNIn
import Derived.LoopIn
namespace Go.Proofs.YtmlgjijjkikkhaaGreatDoor
open Go.RowKit
attribute [local go_sem] Oper.semAt_some
attribute [local go_sem] stF neqM eqS
set_option maxRecDepth 100000 in
set_option maxHeartbeats 2000000 in
theorem size_e {t : Nat} {x : Ob} {sP sB : Value} {w : World} (h : HobE w t x sP sB) : Calls Tryz.prog 146 #[.pointer (some ⟨t, 13, none⟩)] w fun e w' => e = .returned (.int .i64 0) ∧ w = w' := by
  obtain ⟨q, h⟩ := h
  have c14 : w.cell? ⟨t, 14, none⟩ = some (.map none) := (cell_of_row w t 14 _ _ _ h).trans rfl
  have c13 : w.cell? ⟨t, 13, none⟩ = some (.slice (some ⟨q, 0, none⟩) 0 0) := (cell_of_row w t 13 _ _ _ h).trans rfl
  clear h
  go_enter Tryz.func146, Tryz.ntmps146
  go_wp2
  go_ret
  exact ⟨rfl, rfl⟩
set_option maxRecDepth 100000 in
set_option maxHeartbeats 2000000 in
theorem each_e {t : Nat} {x : Ob} {sP sB : Value} {w : World} (n : Nat) (X : Nat → Nat → World → Value → Prop) (h : HobE w t x sP sB) : Itr Tryz.prog 142 #[.pointer (some ⟨t, 13, none⟩)] #[] n 0 X w := by
  intro l J Jx W hb _ _ _ h0
  obtain ⟨q, h⟩ := h
  have h := (hb.block _ (Array.getElem?_eq_some_iff.1 h).1).trans h
  have c13 : W.cell? ⟨t, 13, none⟩ = some (.slice (some ⟨q, 0, none⟩) 0 0) := (cell_of_row W t 13 _ _ _ h).trans rfl
  clear h hb
  refine callsIn_of_wp Tryz.func142 rfl trivial ?_
  simp only [Tryz.ntmps142, List.size_toArray, List.length_cons, List.length_nil, Nat.reduceAdd, Nat.reduceSub, Array.replicate_succ, Array.replicate_zero, List.push_toArray, List.append_toArray, List.nil_append, List.cons_append]
  gi_wp2
  gi_loopw [11] (fun i wr => i = .int .i64 0 ∧ wr = W) (fun _ _ => 0)
  case atStart => exact ⟨rfl, rfl⟩
  case round =>
    obtain ⟨rfl, rfl⟩ := hrel
    gi_wp2
    go_end0
    exact ⟨⟨_, rfl⟩, .inl h0⟩
abbrev zKeyed : Value := .agg #[.string ⟨#[]⟩, .int .i64 0, .int .i64 0, .bool false, .float .f64 0, .string ⟨#[]⟩, .int .i64 0, .int .i64 0, .bool false, .float .f64 0, .string ⟨#[]⟩, .int .i64 0, .int .i64 0, .bool false, .float .f64 0, .string ⟨#[]⟩, .int .i64 0, .bool false, .bool false, .bool false]
theorem made_keyed : madeCells zKeyed.cells (Int.toNat 0 * Tryz.t154.size) = #[] := by kernel_rfl
theorem mk_keyed (w : World) : (Instr.makeSlice 68 (.int .i64 0) (.int .i64 0)).run Tryz.prog w = .ok (.slice (some ⟨w.heap.size, 0, none⟩) 0 0) (w.alloc (.cells #[] 154)) := by
  have h := run_makeSlice (P := Tryz.prog) w 68 154 Tryz.t154 zKeyed Tryz.underlying68 (by kernel_rfl) (by kernel_rfl) .i64 .i64 0 0 (by omega) (by omega) (by decide) (by decide) (by omega)
  rw [made_keyed] at h
  exact h
set_option maxRecDepth 100000 in
set_option maxHeartbeats 2000000 in
theorem list_e {t : Nat} {x : Ob} {sP sB : Value} {w : World} (h : HobE w t x sP sB) : Calls Tryz.prog 128 #[.pointer (some ⟨t, 13, none⟩)] w fun e w' => (∃ q, e = .returned (.slice (some ⟨q, 0, none⟩) 0 0)) ∧ Below w.heap.size w w' := by
  have C1 := Lib.hid (fun W (h : HobE W t x sP sB) => size_e h)
  have CI := Lib.hid (fun W (h : HobE W t x sP sB) n X => each_e n X h)
  have hm := mk_keyed
  have H := Lib.hid h
  clear h
  refine (callsIn_wide (n := 0)).1 ?_
  refine callsIn_of_wp_marks Tryz.func128 rfl trivial ?_ rfl
  simp only [Tryz.ntmps128, List.size_toArray, List.length_cons, List.length_nil, Nat.reduceAdd, Nat.reduceSub, Array.replicate_succ, Array.replicate_zero, List.push_toArray, List.append_toArray, List.nil_append, List.cons_append]
  gi_wp2
  refine ⟨trivial, rfl, (callsIn_wide.2 (C1.out _ H.out)).mono ?_⟩
  rintro e w' ⟨rfl, rfl⟩
  gi_wp2
  obtain ⟨W1, hW1⟩ : ∃ W1, (w.alloc (.cells #[] 154)).alloc (.cells #[.slice (some ⟨w.heap.size, 0, none⟩) 0 0] 68) = W1 := ⟨_, rfl⟩
  have z1 : W1.heap.size = w.heap.size + 2 := by rw [← hW1]; simp
  have hb1 : Below w.heap.size w W1 := by rw [← hW1]; exact below_a2 w _ _
  have n1 : W1.heap[w.heap.size + 1]? = some (.cells #[.slice (some ⟨w.heap.size, 0, none⟩) 0 0] 68 (0, 0)) := by
    rw [← hW1]
    have := new1 (w.alloc (.cells #[] 154)) #[.slice (some ⟨w.heap.size, 0, none⟩) 0 0] 68
    rwa [World.size_alloc] at this
  rw [hW1]
  clear hW1
  refine wp_range (gf := 142) (fb := #[.pointer (some ⟨t, 13, none⟩)]) (lb := #[]) rfl (enters_of Tryz.func142 (by kernel_rfl) rfl) (CI.out W1 (H.out.on hb1) w.heap.size (fun _ _ _ _ => True)) (Below.refl _ _) (by omega) (fun _ _ _ _ _ _ => trivial)
    (fun _ W => Below w.heap.size w W ∧ W.heap[w.heap.size + 1]? = some (.cells #[.slice (some ⟨w.heap.size, 0, none⟩) 0 0] 68 (0, 0))) (fun _ _ _ => False) (fun k A B h _ hb => ⟨h.1.trans (hb.mono (by rw [z1]; omega)), (hb.block _ (by rw [z1]; omega)).trans h.2⟩) (fun _ _ _ _ h _ _ => h) ⟨hb1, n1⟩
    (fun v => { tmps := #[.pointer (some ⟨t, 13, none⟩), undef, .slice none 0 0, .pointer (some ⟨w.heap.size + 1, 0, none⟩), v, .pointer (some ⟨t, 13, none⟩), .int .i64 0, .slice (some ⟨w.heap.size, 0, none⟩) 0 0, .pointer (some ⟨t, 13, none⟩), .func (.func 142) #[.pointer (some ⟨t, 13, none⟩)] #[], v, undef, undef, undef, undef, undef, undef, undef, undef, undef, undef, undef], defers := [] }) ?assign ?body ?done ?stop
  case assign =>
    intro l v W K hK
    gi_wp2
    exact hK
  case body =>
    intro l k v W hk
    omega
  case stop =>
    intro D c k W _ hk
    omega
  case done =>
    rintro D W hD ⟨hB, hc⟩ hd
    have a1 : W.cell? ⟨w.heap.size + 1, 0, none⟩ = some (.slice (some ⟨w.heap.size, 0, none⟩) 0 0) := (cell_of_row W _ 0 _ _ _ hc).trans rfl
    have RB := Lib.hid hB
    have HD := Lib.hid hd
    have HDD := Lib.hid (show w.heap.size ≤ D by rw [z1] at hD; omega)
    clear hB hc hd hD n1 hb1 z1
    gi_wp2
    refine ⟨by simp, .inl ⟨_, _, rfl, run_takeDeferred HD.out, ?_⟩⟩
    exact ⟨_, results_tmp rfl _ _ _, ⟨_, rfl⟩, RB.out.trans (below_put _ _ HDD.out)⟩
end Go.Proofs.YtmlgjijjkikkhaaGreatDoor
