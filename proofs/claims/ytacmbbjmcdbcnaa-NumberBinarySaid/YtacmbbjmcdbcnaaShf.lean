/-
  The methods of two numbers that shift.
-/
import Derived.Test.YtacmbbjmcdbcnaaLawB
import Derived.Deep.RegionHeld3
namespace Go.Proofs.Ytacmbbjmcdbcnaa
open Go.RowKit
theorem kept {W w' : World} (h : Below W.heap.size W w') (a : Addr) (v : Value) (hc : W.cell? a = some v) : w'.cell? a = some v := by
  rw [← hc]
  refine h.cell ?_
  rcases Nat.lt_or_ge a.block W.heap.size with h' | h'
  · exact h'
  · simp [World.cell?, Array.getElem?_eq_none h'] at hc
theorem places_kept (x y : Nat) (w : World) (hy : y < 18446744073709551616) : Calls Try.prog 107 #[.agg #[.float .f64 x, .float .f64 y]] w fun e w' => e = .returned (.int .u32 ((u32V y % 32 : Nat) : Int)) ∧ Below w.heap.size w w' ∧ ∀ a v, w.cell? a = some v → w'.cell? a = some v :=
  (places_any x y w hy).mono fun _ _ ⟨a, b⟩ => ⟨a, b, kept b⟩
set_option maxRecDepth 100000 in
set_option maxHeartbeats 1000000 in
theorem left_any (x y : Nat) (w : World) (hx : x < 18446744073709551616) (hy : y < 18446744073709551616) : Calls Try.prog 89 #[.agg #[.float .f64 x, .float .f64 y]] w fun e w' => e = .returned (.float .f64 (floatOfInt .f64 (IntKind.i32.wrap (i32V x * 2 ^ min (u32V y % 32) 32)))) ∧ Below w.heap.size w w' := by
  have C1 := Lib.hid (fun W => ni32_any x W hx)
  have C2 := Lib.hid (fun W => places_kept x y W hy)
  have HB := Lib.hid (Below.alloc (Below.refl w.heap.size w) (Nat.le_refl _) (.cells #[.float .f64 x, .float .f64 y] 66))
  obtain ⟨i, hi⟩ : ∃ i, i32V x = i := ⟨_, rfl⟩
  obtain ⟨s, hs⟩ : ∃ s, u32V y % 32 = s := ⟨_, rfl⟩
  rw [hi] at C1 ⊢
  rw [hs] at C2 ⊢
  have t1 : (0 : Int) ≤ (s : Int) := by omega
  clear hx hy hi hs
  go_enter Try.func89, Try.ntmps89
  go_wp2
  go_region_held3 (fun w' => w'.cell? ⟨w.heap.size, 0, none⟩ = some (.float .f64 x) ∧ w'.cell? ⟨w.heap.size, 1, none⟩ = some (.float .f64 y)) (go_keep) (first | (go_at_call 17; with_reducible refine (C1.out _).mono ?_; rintro e w' ⟨rfl, rfl⟩) | (go_at_call 107; with_reducible refine (C2.out _).mono ?_; rintro e w2 ⟨rfl, b2, hk⟩; have k0 := hk ⟨w.heap.size, 0, none⟩ (.float .f64 x) (by simp [*]); have k1 := hk ⟨w.heap.size, 1, none⟩ (.float .f64 y) (by simp [*])))
  have B2 : Below w.heap.size w w2 := below_le (below_drewN' HB.out 1) b2
  clear k0 k1 hk b2 t1 C1 C2
  go_wp2
  go_ret
  exact ⟨rfl, B2⟩
set_option maxRecDepth 100000 in
set_option maxHeartbeats 1000000 in
theorem right_any (x y : Nat) (w : World) (hx : x < 18446744073709551616) (hy : y < 18446744073709551616) : Calls Try.prog 90 #[.agg #[.float .f64 x, .float .f64 y]] w fun e w' => e = .returned (.float .f64 (floatOfInt .f64 (i32V x / 2 ^ min (u32V y % 32) 32))) ∧ Below w.heap.size w w' := by
  have C1 := Lib.hid (fun W => ni32_any x W hx)
  have C2 := Lib.hid (fun W => places_kept x y W hy)
  have HB := Lib.hid (Below.alloc (Below.refl w.heap.size w) (Nat.le_refl _) (.cells #[.float .f64 x, .float .f64 y] 66))
  obtain ⟨i, hi⟩ : ∃ i, i32V x = i := ⟨_, rfl⟩
  obtain ⟨s, hs⟩ : ∃ s, u32V y % 32 = s := ⟨_, rfl⟩
  rw [hi] at C1 ⊢
  rw [hs] at C2 ⊢
  have t1 : (0 : Int) ≤ (s : Int) := by omega
  clear hx hy hi hs
  go_enter Try.func90, Try.ntmps90
  go_wp2
  go_region_held3 (fun w' => w'.cell? ⟨w.heap.size, 0, none⟩ = some (.float .f64 x) ∧ w'.cell? ⟨w.heap.size, 1, none⟩ = some (.float .f64 y)) (go_keep) (first | (go_at_call 17; with_reducible refine (C1.out _).mono ?_; rintro e w' ⟨rfl, rfl⟩) | (go_at_call 107; with_reducible refine (C2.out _).mono ?_; rintro e w2 ⟨rfl, b2, hk⟩; have k0 := hk ⟨w.heap.size, 0, none⟩ (.float .f64 x) (by simp [*]); have k1 := hk ⟨w.heap.size, 1, none⟩ (.float .f64 y) (by simp [*])))
  have B2 : Below w.heap.size w w2 := below_le (below_drewN' HB.out 1) b2
  clear k0 k1 hk b2 t1 C1 C2
  go_wp2
  go_ret
  exact ⟨rfl, B2⟩
set_option maxRecDepth 100000 in
set_option maxHeartbeats 1000000 in
theorem unsigned_any (x y : Nat) (w : World) (hx : x < 18446744073709551616) (hy : y < 18446744073709551616) : Calls Try.prog 91 #[.agg #[.float .f64 x, .float .f64 y]] w fun e w' => e = .returned (.float .f64 (floatOfInt .f64 ((u32V x : Int) / 2 ^ min (u32V y % 32) 32))) ∧ Below w.heap.size w w' := by
  have C1 := Lib.hid (fun W => nu32_any x W hx)
  have C2 := Lib.hid (fun W => places_kept x y W hy)
  have HB := Lib.hid (Below.alloc (Below.refl w.heap.size w) (Nat.le_refl _) (.cells #[.float .f64 x, .float .f64 y] 66))
  obtain ⟨i, hi⟩ : ∃ i, u32V x = i := ⟨_, rfl⟩
  obtain ⟨s, hs⟩ : ∃ s, u32V y % 32 = s := ⟨_, rfl⟩
  rw [hi] at C1 ⊢
  rw [hs] at C2 ⊢
  have t1 : (0 : Int) ≤ (s : Int) := by omega
  clear hx hy hi hs
  go_enter Try.func91, Try.ntmps91
  go_wp2
  go_region_held3 (fun w' => w'.cell? ⟨w.heap.size, 0, none⟩ = some (.float .f64 x) ∧ w'.cell? ⟨w.heap.size, 1, none⟩ = some (.float .f64 y)) (go_keep) (first | (go_at_call 19; with_reducible refine (C1.out _).mono ?_; rintro e w' ⟨rfl, rfl⟩) | (go_at_call 107; with_reducible refine (C2.out _).mono ?_; rintro e w2 ⟨rfl, b2, hk⟩; have k0 := hk ⟨w.heap.size, 0, none⟩ (.float .f64 x) (by simp [*]); have k1 := hk ⟨w.heap.size, 1, none⟩ (.float .f64 y) (by simp [*])))
  have B2 : Below w.heap.size w w2 := below_le (below_drewN' HB.out 1) b2
  clear k0 k1 hk b2 t1 C1 C2
  go_wp2
  go_ret
  exact ⟨rfl, B2⟩
end Go.Proofs.Ytacmbbjmcdbcnaa
